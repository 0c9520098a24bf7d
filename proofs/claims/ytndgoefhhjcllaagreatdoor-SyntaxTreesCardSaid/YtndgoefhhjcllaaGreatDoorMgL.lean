/- Texts put together by program: RTxF. -/
import Derived.Test.YtndgoefhhjcllaaGreatDoorMgJ
/- The reference's text: Named, Mask, Using, Resume. -/
namespace Go.Proofs.YtndgoefhhjcllaaGreatDoor
open Go.RowKit

set_option maxRecDepth 100000 in
set_option maxHeartbeats 4000000 in
theorem tx_named (n : Int) (s t : Txt) (a0 : Txt) (e0 : Ex) (rl : List Ex) (ops : List (Txt × List Txt)) (bs : List Ex) (hA0 : AtSays e0) (hz0 : (atT 0 e0).length ≤ 3000002) (hs : s.length ≤ 12) (ht : t.length ≤ 12) (hn0 : a0.length ≤ 12) (hC : ClSays ops bs) (hCz : (clT ops bs).length ≤ 30000000) : TxR (.mk 15 n s t [a0] (e0 :: rl) ops bs) := by
  intro cs w hre
  have hre2 := hre.tight.weaken (Q := fun b => b < w.heap.size) (fun x hx => hx.2)
  obtain ⟨An, cn, Al, cl, Aa, ca, rfl, hf, hn, hl, ha, ho⟩ := hre2
  show Calls Tryz.prog 34 #[.agg #[.int .i64 15, .int .i64 n, .string (strB s), .string (strB t), .slice An [a0].length cn, .slice Al (e0 :: rl).length cl, .slice Aa bs.length ca]] w _
  obtain ⟨W1, hW1⟩ : ∃ W1, w.alloc (.cells #[.int .i64 15, .int .i64 n, .string (strB s), .string (strB t), .slice An [a0].length cn, .slice Al (e0 :: rl).length cl, .slice Aa bs.length ca] 27) = W1 := ⟨_, rfl⟩
  have HB1 : Hid (Below w.heap.size w W1) := Lib.hid (by rw [← hW1]; exact (Below.refl _ _).alloc (Nat.le_refl _) _)
  have HE1 : Hid (EB W1 w.heap.size (.int .i64 15) (.int .i64 n) (.string (strB s)) (.string (strB t)) (.slice An [a0].length cn) (.slice Al (e0 :: rl).length cl) (.slice Aa bs.length ca)) := Lib.hid (by rw [← hW1]; exact EB.new w _ _ _ _ _ _ _)
  have hlt1 : w.heap.size < W1.heap.size := HE1.out.lt
  obtain ⟨S, hS⟩ : ∃ S, S = strB s := ⟨_, rfl⟩
  obtain ⟨T, hT⟩ : ∃ T, T = strB t := ⟨_, rfl⟩
  have hSz : S.size ≤ 12 := by rw [hS, strB_size]; exact hs
  have hTz : T.size ≤ 12 := by rw [hT, strB_size]; exact ht
  obtain ⟨nb0, noff, rfl, hnb1, hnb2, hnc⟩ := hn (by simp)
  obtain ⟨N0, hN0⟩ : ∃ N, N = strB a0 := ⟨_, rfl⟩
  have hNz0 : N0.size ≤ 12 := by rw [hN0, strB_size]; exact hn0
  have hcn0 := hnc 0 a0 rfl
  rw [← hN0] at hcn0
  rw [Nat.add_zero] at hcn0
  have gn0 : W1.cell? ⟨nb0, noff, none⟩ = some (.string N0) := (Below.cell (p := ⟨nb0, _, none⟩) HB1.out hnb2).trans hcn0
  have hnlt : nb0 < W1.heap.size := Nat.lt_trans hnb2 hlt1
  have hPa : PartsAt w.heap.size w Al (e0 :: rl) := parts_of hl
  obtain ⟨b, off, rfl⟩ := hPa.addr (by simp)
  obtain ⟨⟨hb0, _⟩, k0, m0, s0, t0, B0, q0, r0, C0, u0, y0, D0, z0, x0, hc0⟩ := hPa.at (j := 0) (e := e0) rfl
  obtain ⟨X0, hX0⟩ : ∃ X, X = strB (atT 0 e0) := ⟨_, rfl⟩
  have hXz0 : X0.size ≤ 3000002 := by rw [hX0, strB_size]; exact hz0
  have HX0 : Hid (∀ w', PtS W1 w' → Calls Tryz.prog 83 #[.agg #[.int .i64 k0, .int .i64 m0, .string s0, .string t0, .slice B0 q0 r0, .slice C0 u0 y0, .slice D0 z0 x0], .int .i64 0] w' fun r w2 => r = .returned (.string X0) ∧ Below w'.heap.size w' w2) := Lib.hid (fun w' hp => by
    rw [hX0]
    exact hA0 0 _ _ _ _ _ _ _ _ _ _ _ _ _ w' ((hc0.rep.weaken (Q := fun _ => True) (fun _ _ => trivial)).keep (Same.of_below (HB1.out.trans (Below.mono (show Below W1.heap.size W1 w' from hp) HB1.out.size)))))
  obtain ⟨d00, d01, d02, d03, d04, d05, d06⟩ := hc0.up hb0 HB1.out
  simp only [Nat.zero_mul, Nat.add_zero] at d00 d01 d02 d03 d04 d05 d06
  have hblt : b < W1.heap.size := Nat.lt_trans hb0 hlt1
  obtain ⟨C, hC0⟩ : ∃ C, C = strB (clT ops bs) := ⟨_, rfl⟩
  have hCsz : C.size ≤ 30000000 := by rw [hC0, strB_size]; exact hCz
  have HC : Hid (∀ w', PtS W1 w' → Calls Tryz.prog 86 #[.slice Aa bs.length ca] w' fun r w2 => r = .returned (.string C) ∧ Below w'.heap.size w' w2) := Lib.hid (fun w' hp => by
    rw [hC0]
    exact hC Aa ca w' w.heap.size (ArmsAt.below (arms_of ha) (HB1.out.trans (Below.mono (show Below W1.heap.size W1 w' from hp) HB1.out.size))) ho (Nat.le_trans HB1.out.size (Below.size hp)))
  obtain ⟨R, hR⟩ : ∃ R, R = strB (textE (.mk 15 n s t [a0] (e0 :: rl) ops bs)) := ⟨_, rfl⟩
  have HR : Hid (R = ⟨#[110, 97, 109, 101, 100, 32]⟩ ++ N0 ++ ⟨#[32]⟩ ++ S ++ ⟨#[32]⟩ ++ X0 ++ ⟨#[32]⟩ ++ C) := Lib.hid (by
    rw [hR, show textE (.mk 15 n s t [a0] (e0 :: rl) ops bs) = [110, 97, 109, 101, 100, 32] ++ a0 ++ [32] ++ s ++ [32] ++ atT 0 e0 ++ [32] ++ clT ops bs from by
      exact txeq_named ..]
    simp only [strB_cat]
    rw [hS, hN0, hX0, hC0]
    all_goals rfl)
  rw [← hR]
  rw [← hS, ← hT] at HE1 hW1
  rw [← hS, ← hT]
  obtain ⟨nn, hnn⟩ : ∃ q, q = [a0].length := ⟨_, rfl⟩
  obtain ⟨nl, hnl⟩ : ∃ q, q = (e0 :: rl).length := ⟨_, rfl⟩
  obtain ⟨nb, hnb⟩ : ∃ q, q = bs.length := ⟨_, rfl⟩
  rw [← hnn, ← hnl, ← hnb] at HE1 hW1
  rw [← hnb] at HC
  rw [← hnn, ← hnl, ← hnb]
  have i0 : (0 : Int) < (nl : Int) := by rw [hnl]; simp only [List.length_cons]; omega
  have i0n : 0 < nl := by omega
  have j0 : (0 : Int) < (nn : Int) := by rw [hnn]; simp only [List.length_cons]; omega
  have j0n : 0 < nn := by omega
  have hzz1 : ¬ 9223372036854775807 < 6 + N0.size := by omega
  have hzz2 : ¬ 9223372036854775807 < 6 + N0.size + 1 := by omega
  have hzz3 : ¬ 9223372036854775807 < 6 + N0.size + 1 + S.size := by omega
  have hzz4 : ¬ 9223372036854775807 < 6 + N0.size + 1 + S.size + 1 := by omega
  have hzz5 : ¬ 9223372036854775807 < 6 + N0.size + 1 + S.size + 1 + X0.size := by omega
  have hzz6 : ¬ 9223372036854775807 < 6 + N0.size + 1 + S.size + 1 + X0.size + 1 := by omega
  have hzz7 : ¬ 9223372036854775807 < 6 + N0.size + 1 + S.size + 1 + X0.size + 1 + C.size := by omega
  have e0' := HE1.out.c0
  have e1' := HE1.out.c1
  have e2' := HE1.out.c2
  have e3' := HE1.out.c3
  have e4' := HE1.out.c4
  have e5' := HE1.out.c5
  have e6' := HE1.out.c6
  clear hS hT hR hnn hnl hnb hre hf hl ha ho hs ht hN0 hcn0 hn0 hnc hX0 hc0 hA0 hz0 hPa hC0 hC hCz
  have HAll := Lib.hid (fun w' (h : PtS W1 w') => And.intro (PtS.keep h hlt1 e1') (And.intro (PtS.keep h hlt1 e2') (And.intro (PtS.keep h hlt1 e3') (And.intro (PtS.keep h hlt1 e4') (And.intro (PtS.keep h hlt1 e5') (And.intro (PtS.keep h hlt1 e6') (And.intro (PtS.keep h hnlt gn0) (And.intro (PtS.keep h hblt d00) (And.intro (PtS.keep h hblt d01) (And.intro (PtS.keep h hblt d02) (And.intro (PtS.keep h hblt d03) (And.intro (PtS.keep h hblt d04) (And.intro (PtS.keep h hblt d05) (And.intro (PtS.keep h hblt d06) h))))))))))))))
  have hs0 : PtS W1 W1 := Below.refl _ _
  go_enter Tryz.func34, Tryz.ntmps34
  go_wp2_with fail
  clear hW1
  go_region_held3 (fun w' => w'.cell? ⟨w.heap.size, 1, none⟩ = some (.int .i64 n) ∧ w'.cell? ⟨w.heap.size, 2, none⟩ = some (.string S) ∧ w'.cell? ⟨w.heap.size, 3, none⟩ = some (.string T) ∧ w'.cell? ⟨w.heap.size, 4, none⟩ = some (.slice (some ⟨nb0, noff, none⟩) nn cn) ∧ w'.cell? ⟨w.heap.size, 5, none⟩ = some (.slice (some ⟨b, off, none⟩) nl cl) ∧ w'.cell? ⟨w.heap.size, 6, none⟩ = some (.slice Aa nb ca) ∧ w'.cell? ⟨nb0, noff, none⟩ = some (.string N0) ∧ w'.cell? ⟨b, off, none⟩ = some (.int .i64 k0) ∧ w'.cell? ⟨b, off + 1, none⟩ = some (.int .i64 m0) ∧ w'.cell? ⟨b, off + 2, none⟩ = some (.string s0) ∧ w'.cell? ⟨b, off + 3, none⟩ = some (.string t0) ∧ w'.cell? ⟨b, off + 4, none⟩ = some (.slice B0 q0 r0) ∧ w'.cell? ⟨b, off + 5, none⟩ = some (.slice C0 u0 y0) ∧ w'.cell? ⟨b, off + 6, none⟩ = some (.slice D0 z0 x0) ∧ PtS W1 w')
    ((refine HAll.out _ ?_; first | assumption | exact hs0.drew | exact .below ‹_› hs0.drew | exact .below ‹_› (.below ‹_› hs0.drew) | exact .below ‹_› (.below ‹_› (.below ‹_› hs0.drew))))
    (first | (go_at_call 83; (with_reducible refine (HX0.out _ (by first | assumption | exact hs0.drew | exact .below ‹_› hs0.drew | exact .below ‹_› (.below ‹_› hs0.drew) | exact .below ‹_› (.below ‹_› (.below ‹_› hs0.drew)))).mono ?_); rintro e w' ⟨rfl, hb⟩) | (go_at_call 86; (with_reducible refine (HC.out _ (by first | assumption | exact hs0.drew | exact .below ‹_› hs0.drew | exact .below ‹_› (.below ‹_› hs0.drew) | exact .below ‹_› (.below ‹_› (.below ‹_› hs0.drew)))).mono ?_); rintro e w' ⟨rfl, hb⟩))
  rename_i hh
  have HBn := Lib.hid hh.2.2.2.2.2.2.2.2.2.2.2.2.2.2
  clear hh HAll hs0
  go_wp2_with fail
  go_ret
  exact ⟨by rw [HR.out]; rfl, HB1.out.trans (Below.mono (show Below W1.heap.size W1 _ from HBn.out) HB1.out.size)⟩
set_option maxRecDepth 100000 in
set_option maxHeartbeats 4000000 in
theorem tx_mask (n : Int) (s t : Txt) (ns : List Txt) (e0 : Ex) (rl : List Ex) (ops : List (Txt × List Txt)) (bs : List Ex) (hA0 : AtSays e0) (hz0 : (atT 5 e0).length ≤ 3000002) (hs : s.length ≤ 12) (ht : t.length ≤ 12) : TxR (.mk 16 n s t ns (e0 :: rl) ops bs) := by
  intro cs w hre
  have hre2 := hre.tight.weaken (Q := fun b => b < w.heap.size) (fun x hx => hx.2)
  obtain ⟨An, cn, Al, cl, Aa, ca, rfl, hf, hn, hl, ha, ho⟩ := hre2
  show Calls Tryz.prog 34 #[.agg #[.int .i64 16, .int .i64 n, .string (strB s), .string (strB t), .slice An ns.length cn, .slice Al (e0 :: rl).length cl, .slice Aa bs.length ca]] w _
  obtain ⟨W1, hW1⟩ : ∃ W1, w.alloc (.cells #[.int .i64 16, .int .i64 n, .string (strB s), .string (strB t), .slice An ns.length cn, .slice Al (e0 :: rl).length cl, .slice Aa bs.length ca] 27) = W1 := ⟨_, rfl⟩
  have HB1 : Hid (Below w.heap.size w W1) := Lib.hid (by rw [← hW1]; exact (Below.refl _ _).alloc (Nat.le_refl _) _)
  have HE1 : Hid (EB W1 w.heap.size (.int .i64 16) (.int .i64 n) (.string (strB s)) (.string (strB t)) (.slice An ns.length cn) (.slice Al (e0 :: rl).length cl) (.slice Aa bs.length ca)) := Lib.hid (by rw [← hW1]; exact EB.new w _ _ _ _ _ _ _)
  have hlt1 : w.heap.size < W1.heap.size := HE1.out.lt
  obtain ⟨S, hS⟩ : ∃ S, S = strB s := ⟨_, rfl⟩
  obtain ⟨T, hT⟩ : ∃ T, T = strB t := ⟨_, rfl⟩
  have hSz : S.size ≤ 12 := by rw [hS, strB_size]; exact hs
  have hTz : T.size ≤ 12 := by rw [hT, strB_size]; exact ht
  have hPa : PartsAt w.heap.size w Al (e0 :: rl) := parts_of hl
  obtain ⟨b, off, rfl⟩ := hPa.addr (by simp)
  obtain ⟨⟨hb0, _⟩, k0, m0, s0, t0, B0, q0, r0, C0, u0, y0, D0, z0, x0, hc0⟩ := hPa.at (j := 0) (e := e0) rfl
  obtain ⟨X0, hX0⟩ : ∃ X, X = strB (atT 5 e0) := ⟨_, rfl⟩
  have hXz0 : X0.size ≤ 3000002 := by rw [hX0, strB_size]; exact hz0
  have HX0 : Hid (∀ w', PtS W1 w' → Calls Tryz.prog 83 #[.agg #[.int .i64 k0, .int .i64 m0, .string s0, .string t0, .slice B0 q0 r0, .slice C0 u0 y0, .slice D0 z0 x0], .int .i64 5] w' fun r w2 => r = .returned (.string X0) ∧ Below w'.heap.size w' w2) := Lib.hid (fun w' hp => by
    rw [hX0]
    exact hA0 5 _ _ _ _ _ _ _ _ _ _ _ _ _ w' ((hc0.rep.weaken (Q := fun _ => True) (fun _ _ => trivial)).keep (Same.of_below (HB1.out.trans (Below.mono (show Below W1.heap.size W1 w' from hp) HB1.out.size)))))
  obtain ⟨d00, d01, d02, d03, d04, d05, d06⟩ := hc0.up hb0 HB1.out
  simp only [Nat.zero_mul, Nat.add_zero] at d00 d01 d02 d03 d04 d05 d06
  have hblt : b < W1.heap.size := Nat.lt_trans hb0 hlt1
  obtain ⟨R, hR⟩ : ∃ R, R = strB (textE (.mk 16 n s t ns (e0 :: rl) ops bs)) := ⟨_, rfl⟩
  have HR : Hid (R = ⟨#[109, 97, 115, 107, 32]⟩ ++ S ++ ⟨#[32]⟩ ++ X0) := Lib.hid (by
    rw [hR, show textE (.mk 16 n s t ns (e0 :: rl) ops bs) = [109, 97, 115, 107, 32] ++ s ++ [32] ++ atT 5 e0 from by
      exact txeq_mask ..]
    simp only [strB_cat]
    rw [hS, hX0]
    all_goals rfl)
  rw [← hR]
  rw [← hS, ← hT] at HE1 hW1
  rw [← hS, ← hT]
  obtain ⟨nn, hnn⟩ : ∃ q, q = ns.length := ⟨_, rfl⟩
  obtain ⟨nl, hnl⟩ : ∃ q, q = (e0 :: rl).length := ⟨_, rfl⟩
  obtain ⟨nb, hnb⟩ : ∃ q, q = bs.length := ⟨_, rfl⟩
  rw [← hnn, ← hnl, ← hnb] at HE1 hW1
  rw [← hnn, ← hnl, ← hnb]
  have i0 : (0 : Int) < (nl : Int) := by rw [hnl]; simp only [List.length_cons]; omega
  have i0n : 0 < nl := by omega
  have hzz1 : ¬ 9223372036854775807 < 5 + S.size := by omega
  have hzz2 : ¬ 9223372036854775807 < 5 + S.size + 1 := by omega
  have hzz3 : ¬ 9223372036854775807 < 5 + S.size + 1 + X0.size := by omega
  have e0' := HE1.out.c0
  have e1' := HE1.out.c1
  have e2' := HE1.out.c2
  have e3' := HE1.out.c3
  have e4' := HE1.out.c4
  have e5' := HE1.out.c5
  have e6' := HE1.out.c6
  clear hS hT hR hnn hnl hnb hre hf hl ha ho hs ht hn hX0 hc0 hA0 hz0 hPa
  have HAll := Lib.hid (fun w' (h : PtS W1 w') => And.intro (PtS.keep h hlt1 e1') (And.intro (PtS.keep h hlt1 e2') (And.intro (PtS.keep h hlt1 e3') (And.intro (PtS.keep h hlt1 e4') (And.intro (PtS.keep h hlt1 e5') (And.intro (PtS.keep h hlt1 e6') (And.intro (PtS.keep h hblt d00) (And.intro (PtS.keep h hblt d01) (And.intro (PtS.keep h hblt d02) (And.intro (PtS.keep h hblt d03) (And.intro (PtS.keep h hblt d04) (And.intro (PtS.keep h hblt d05) (And.intro (PtS.keep h hblt d06) h)))))))))))))
  have hs0 : PtS W1 W1 := Below.refl _ _
  go_enter Tryz.func34, Tryz.ntmps34
  go_wp2_with fail
  clear hW1
  go_region_held3 (fun w' => w'.cell? ⟨w.heap.size, 1, none⟩ = some (.int .i64 n) ∧ w'.cell? ⟨w.heap.size, 2, none⟩ = some (.string S) ∧ w'.cell? ⟨w.heap.size, 3, none⟩ = some (.string T) ∧ w'.cell? ⟨w.heap.size, 4, none⟩ = some (.slice An nn cn) ∧ w'.cell? ⟨w.heap.size, 5, none⟩ = some (.slice (some ⟨b, off, none⟩) nl cl) ∧ w'.cell? ⟨w.heap.size, 6, none⟩ = some (.slice Aa nb ca) ∧ w'.cell? ⟨b, off, none⟩ = some (.int .i64 k0) ∧ w'.cell? ⟨b, off + 1, none⟩ = some (.int .i64 m0) ∧ w'.cell? ⟨b, off + 2, none⟩ = some (.string s0) ∧ w'.cell? ⟨b, off + 3, none⟩ = some (.string t0) ∧ w'.cell? ⟨b, off + 4, none⟩ = some (.slice B0 q0 r0) ∧ w'.cell? ⟨b, off + 5, none⟩ = some (.slice C0 u0 y0) ∧ w'.cell? ⟨b, off + 6, none⟩ = some (.slice D0 z0 x0) ∧ PtS W1 w')
    ((refine HAll.out _ ?_; first | assumption | exact hs0.drew | exact .below ‹_› hs0.drew | exact .below ‹_› (.below ‹_› hs0.drew) | exact .below ‹_› (.below ‹_› (.below ‹_› hs0.drew))))
    (first | (go_at_call 83; (with_reducible refine (HX0.out _ (by first | assumption | exact hs0.drew | exact .below ‹_› hs0.drew | exact .below ‹_› (.below ‹_› hs0.drew) | exact .below ‹_› (.below ‹_› (.below ‹_› hs0.drew)))).mono ?_); rintro e w' ⟨rfl, hb⟩))
  rename_i hh
  have HBn := Lib.hid hh.2.2.2.2.2.2.2.2.2.2.2.2.2
  clear hh HAll hs0
  go_wp2_with fail
  go_ret
  exact ⟨by rw [HR.out]; rfl, HB1.out.trans (Below.mono (show Below W1.heap.size W1 _ from HBn.out) HB1.out.size)⟩
set_option maxRecDepth 100000 in
set_option maxHeartbeats 4000000 in
theorem tx_using (n : Int) (s t : Txt) (a0 : Txt) (rn : List Txt) (e0 e1 e2 : Ex) (rl : List Ex) (ops : List (Txt × List Txt)) (bs : List Ex) (hA0 : AtSays e0) (hz0 : (atT 0 e0).length ≤ 3000002) (hA1 : AtSays e1) (hz1 : (atT 0 e1).length ≤ 3000002) (hA2 : AtSays e2) (hz2 : (atT 0 e2).length ≤ 3000002) (hs : s.length ≤ 12) (ht : t.length ≤ 12) (hn0 : a0.length ≤ 12) (hJ : rn.length ≤ 12) (hJz : (Lib.join rn [44, 32]).length ≤ 168) : TxR (.mk 17 n s t (a0 :: rn) (e0 :: e1 :: e2 :: rl) ops bs) := by
  intro cs w hre
  have hre2 := hre.tight.weaken (Q := fun b => b < w.heap.size) (fun x hx => hx.2)
  obtain ⟨An, cn, Al, cl, Aa, ca, rfl, hf, hn, hl, ha, ho⟩ := hre2
  have HCn := Lib.hid (show (a0 :: rn).length ≤ cn from hf.hcn.1)
  show Calls Tryz.prog 34 #[.agg #[.int .i64 17, .int .i64 n, .string (strB s), .string (strB t), .slice An (a0 :: rn).length cn, .slice Al (e0 :: e1 :: e2 :: rl).length cl, .slice Aa bs.length ca]] w _
  obtain ⟨W1, hW1⟩ : ∃ W1, w.alloc (.cells #[.int .i64 17, .int .i64 n, .string (strB s), .string (strB t), .slice An (a0 :: rn).length cn, .slice Al (e0 :: e1 :: e2 :: rl).length cl, .slice Aa bs.length ca] 27) = W1 := ⟨_, rfl⟩
  have HB1 : Hid (Below w.heap.size w W1) := Lib.hid (by rw [← hW1]; exact (Below.refl _ _).alloc (Nat.le_refl _) _)
  have HE1 : Hid (EB W1 w.heap.size (.int .i64 17) (.int .i64 n) (.string (strB s)) (.string (strB t)) (.slice An (a0 :: rn).length cn) (.slice Al (e0 :: e1 :: e2 :: rl).length cl) (.slice Aa bs.length ca)) := Lib.hid (by rw [← hW1]; exact EB.new w _ _ _ _ _ _ _)
  have hlt1 : w.heap.size < W1.heap.size := HE1.out.lt
  obtain ⟨S, hS⟩ : ∃ S, S = strB s := ⟨_, rfl⟩
  obtain ⟨T, hT⟩ : ∃ T, T = strB t := ⟨_, rfl⟩
  have hSz : S.size ≤ 12 := by rw [hS, strB_size]; exact hs
  have hTz : T.size ≤ 12 := by rw [hT, strB_size]; exact ht
  obtain ⟨nb0, noff, rfl, hnb1, hnb2, hnc⟩ := hn (by simp)
  obtain ⟨N0, hN0⟩ : ∃ N, N = strB a0 := ⟨_, rfl⟩
  have hNz0 : N0.size ≤ 12 := by rw [hN0, strB_size]; exact hn0
  have hcn0 := hnc 0 a0 rfl
  rw [← hN0] at hcn0
  rw [Nat.add_zero] at hcn0
  have gn0 : W1.cell? ⟨nb0, noff, none⟩ = some (.string N0) := (Below.cell (p := ⟨nb0, _, none⟩) HB1.out hnb2).trans hcn0
  have hnlt : nb0 < W1.heap.size := Nat.lt_trans hnb2 hlt1
  have HNs := Lib.hid (show NamesAt (fun b => b < w.heap.size) w (some (⟨nb0, noff + 1, none⟩ : Addr)) rn from fun _ => ⟨nb0, noff + 1, rfl, hnb1, hnb2, fun j x hj => by have := hnc (j + 1) x (by simpa using hj); rwa [show noff + (j + 1) = noff + 1 + j by omega] at this⟩)
  have hPa : PartsAt w.heap.size w Al (e0 :: e1 :: e2 :: rl) := parts_of hl
  obtain ⟨b, off, rfl⟩ := hPa.addr (by simp)
  obtain ⟨⟨hb0, _⟩, k0, m0, s0, t0, B0, q0, r0, C0, u0, y0, D0, z0, x0, hc0⟩ := hPa.at (j := 0) (e := e0) rfl
  obtain ⟨X0, hX0⟩ : ∃ X, X = strB (atT 0 e0) := ⟨_, rfl⟩
  have hXz0 : X0.size ≤ 3000002 := by rw [hX0, strB_size]; exact hz0
  have HX0 : Hid (∀ w', PtS W1 w' → Calls Tryz.prog 83 #[.agg #[.int .i64 k0, .int .i64 m0, .string s0, .string t0, .slice B0 q0 r0, .slice C0 u0 y0, .slice D0 z0 x0], .int .i64 0] w' fun r w2 => r = .returned (.string X0) ∧ Below w'.heap.size w' w2) := Lib.hid (fun w' hp => by
    rw [hX0]
    exact hA0 0 _ _ _ _ _ _ _ _ _ _ _ _ _ w' ((hc0.rep.weaken (Q := fun _ => True) (fun _ _ => trivial)).keep (Same.of_below (HB1.out.trans (Below.mono (show Below W1.heap.size W1 w' from hp) HB1.out.size)))))
  obtain ⟨d00, d01, d02, d03, d04, d05, d06⟩ := hc0.up hb0 HB1.out
  simp only [Nat.zero_mul, Nat.add_zero] at d00 d01 d02 d03 d04 d05 d06
  obtain ⟨⟨hb1, _⟩, k1, m1, s1, t1, B1, q1, r1, C1, u1, y1, D1, z1, x1, hc1⟩ := hPa.at (j := 1) (e := e1) rfl
  obtain ⟨X1, hX1⟩ : ∃ X, X = strB (atT 0 e1) := ⟨_, rfl⟩
  have hXz1 : X1.size ≤ 3000002 := by rw [hX1, strB_size]; exact hz1
  have HX1 : Hid (∀ w', PtS W1 w' → Calls Tryz.prog 83 #[.agg #[.int .i64 k1, .int .i64 m1, .string s1, .string t1, .slice B1 q1 r1, .slice C1 u1 y1, .slice D1 z1 x1], .int .i64 0] w' fun r w2 => r = .returned (.string X1) ∧ Below w'.heap.size w' w2) := Lib.hid (fun w' hp => by
    rw [hX1]
    exact hA1 0 _ _ _ _ _ _ _ _ _ _ _ _ _ w' ((hc1.rep.weaken (Q := fun _ => True) (fun _ _ => trivial)).keep (Same.of_below (HB1.out.trans (Below.mono (show Below W1.heap.size W1 w' from hp) HB1.out.size)))))
  obtain ⟨d10, d11, d12, d13, d14, d15, d16⟩ := hc1.up hb1 HB1.out
  simp only [Nat.reduceMul, Nat.add_assoc, Nat.reduceAdd] at d10 d11 d12 d13 d14 d15 d16
  obtain ⟨⟨hb2, _⟩, k2, m2, s2, t2, B2, q2, r2, C2, u2, y2, D2, z2, x2, hc2⟩ := hPa.at (j := 2) (e := e2) rfl
  obtain ⟨X2, hX2⟩ : ∃ X, X = strB (atT 0 e2) := ⟨_, rfl⟩
  have hXz2 : X2.size ≤ 3000002 := by rw [hX2, strB_size]; exact hz2
  have HX2 : Hid (∀ w', PtS W1 w' → Calls Tryz.prog 83 #[.agg #[.int .i64 k2, .int .i64 m2, .string s2, .string t2, .slice B2 q2 r2, .slice C2 u2 y2, .slice D2 z2 x2], .int .i64 0] w' fun r w2 => r = .returned (.string X2) ∧ Below w'.heap.size w' w2) := Lib.hid (fun w' hp => by
    rw [hX2]
    exact hA2 0 _ _ _ _ _ _ _ _ _ _ _ _ _ w' ((hc2.rep.weaken (Q := fun _ => True) (fun _ _ => trivial)).keep (Same.of_below (HB1.out.trans (Below.mono (show Below W1.heap.size W1 w' from hp) HB1.out.size)))))
  obtain ⟨d20, d21, d22, d23, d24, d25, d26⟩ := hc2.up hb2 HB1.out
  simp only [Nat.reduceMul, Nat.add_assoc, Nat.reduceAdd] at d20 d21 d22 d23 d24 d25 d26
  have hblt : b < W1.heap.size := Nat.lt_trans hb0 hlt1
  obtain ⟨J, hJ0⟩ : ∃ J, J = strB (Lib.join rn [44, 32]) := ⟨_, rfl⟩
  have hJsz : J.size ≤ 168 := by rw [hJ0, strB_size]; exact hJz
  have HJ : Hid (∀ w', PtS W1 w' → ∀ A, AdrOk rn nb0 noff A → ∀ c, Calls Tryz.prog 87 #[.slice A rn.length c, .string ⟨#[44, 32]⟩] w' fun r w2 => r = .returned (.string J) ∧ w' = w2) := Lib.hid (fun w' hp A hA c => by
    rw [hJ0]
    exact rJoined_any (fun b => b < w.heap.size) A c rn [44, 32] w' (fun h0 => by rw [hA h0]; exact (HNs.out.keep (Same.of_below (HB1.out.trans (Below.mono (show Below W1.heap.size W1 w' from hp) HB1.out.size)))) h0) (by unfold maxLen; omega) (by omega) (by decide))
  obtain ⟨R, hR⟩ : ∃ R, R = strB (textE (.mk 17 n s t (a0 :: rn) (e0 :: e1 :: e2 :: rl) ops bs)) := ⟨_, rfl⟩
  have HR : Hid (R = ⟨#[117, 115, 105, 110, 103, 32]⟩ ++ N0 ++ ⟨#[32, 91]⟩ ++ J ++ ⟨#[93, 32, 61, 32]⟩ ++ X0 ++ ⟨#[32, 99, 108, 111, 115, 101, 32]⟩ ++ X1 ++ ⟨#[32, 105, 110, 32]⟩ ++ X2) := Lib.hid (by
    rw [hR, show textE (.mk 17 n s t (a0 :: rn) (e0 :: e1 :: e2 :: rl) ops bs) = [117, 115, 105, 110, 103, 32] ++ a0 ++ [32, 91] ++ Lib.join rn [44, 32] ++ [93, 32, 61, 32] ++ atT 0 e0 ++ [32, 99, 108, 111, 115, 101, 32] ++ atT 0 e1 ++ [32, 105, 110, 32] ++ atT 0 e2 from by
      exact txeq_using ..]
    simp only [strB_cat]
    rw [hN0, hX0, hX1, hX2, hJ0]
    all_goals rfl)
  rw [← hR]
  rw [← hS, ← hT] at HE1 hW1
  rw [← hS, ← hT]
  obtain ⟨nn, hnn⟩ : ∃ q, q = (a0 :: rn).length := ⟨_, rfl⟩
  obtain ⟨nl, hnl⟩ : ∃ q, q = (e0 :: e1 :: e2 :: rl).length := ⟨_, rfl⟩
  obtain ⟨nb, hnb⟩ : ∃ q, q = bs.length := ⟨_, rfl⟩
  rw [← hnn, ← hnl, ← hnb] at HE1 hW1
  rw [← hnn, ← hnl, ← hnb]
  have i0 : (0 : Int) < (nl : Int) := by rw [hnl]; simp only [List.length_cons]; omega
  have i0n : 0 < nl := by omega
  have i1 : (1 : Int) < (nl : Int) := by rw [hnl]; simp only [List.length_cons]; omega
  have i1n : 1 < nl := by omega
  have i2 : (2 : Int) < (nl : Int) := by rw [hnl]; simp only [List.length_cons]; omega
  have i2n : 2 < nl := by omega
  have j0 : (0 : Int) < (nn : Int) := by rw [hnn]; simp only [List.length_cons]; omega
  have j0n : 0 < nn := by omega
  have jc : nn ≤ cn := by rw [hnn]; exact HCn.out
  have jci : (nn : Int) ≤ (cn : Int) := by omega
  have jnr : nn = rn.length + 1 := by rw [hnn]; rfl
  have jle : (1 : Int) ≤ (nn : Int) := by omega
  have jln : 1 ≤ nn := by omega
  have HJ2 : Hid (∀ w', PtS W1 w' → ∀ A, AdrOk rn nb0 noff A → ∀ c, Calls Tryz.prog 87 #[.slice A (nn - 1) c, .string ⟨#[44, 32]⟩] w' fun r w2 => r = .returned (.string J) ∧ w' = w2) := Lib.hid (fun w' hp A hA c => by rw [show nn - 1 = rn.length by omega]; exact HJ.out w' hp A hA c)
  have HRn : Hid (cn = 1 → rn = []) := Lib.hid (fun h => List.length_eq_zero_iff.1 (by omega))
  have hzz1 : ¬ 9223372036854775807 < 6 + N0.size := by omega
  have hzz2 : ¬ 9223372036854775807 < 6 + N0.size + 2 := by omega
  have hzz3 : ¬ 9223372036854775807 < 6 + N0.size + 2 + J.size := by omega
  have hzz4 : ¬ 9223372036854775807 < 6 + N0.size + 2 + J.size + 4 := by omega
  have hzz5 : ¬ 9223372036854775807 < 6 + N0.size + 2 + J.size + 4 + X0.size := by omega
  have hzz6 : ¬ 9223372036854775807 < 6 + N0.size + 2 + J.size + 4 + X0.size + 7 := by omega
  have hzz7 : ¬ 9223372036854775807 < 6 + N0.size + 2 + J.size + 4 + X0.size + 7 + X1.size := by omega
  have hzz8 : ¬ 9223372036854775807 < 6 + N0.size + 2 + J.size + 4 + X0.size + 7 + X1.size + 4 := by omega
  have hzz9 : ¬ 9223372036854775807 < 6 + N0.size + 2 + J.size + 4 + X0.size + 7 + X1.size + 4 + X2.size := by omega
  have e0' := HE1.out.c0
  have e1' := HE1.out.c1
  have e2' := HE1.out.c2
  have e3' := HE1.out.c3
  have e4' := HE1.out.c4
  have e5' := HE1.out.c5
  have e6' := HE1.out.c6
  clear hS hT hR hnn hnl hnb hre hf hl ha ho hs ht hN0 hcn0 hn0 hnc hX0 hc0 hA0 hz0 hX1 hc1 hA1 hz1 hX2 hc2 hA2 hz2 hPa hJ0 hJ hJz jnr
  have HAll := Lib.hid (fun w' (h : PtS W1 w') => And.intro (PtS.keep h hlt1 e1') (And.intro (PtS.keep h hlt1 e2') (And.intro (PtS.keep h hlt1 e3') (And.intro (PtS.keep h hlt1 e4') (And.intro (PtS.keep h hlt1 e5') (And.intro (PtS.keep h hlt1 e6') (And.intro (PtS.keep h hnlt gn0) (And.intro (PtS.keep h hblt d00) (And.intro (PtS.keep h hblt d01) (And.intro (PtS.keep h hblt d02) (And.intro (PtS.keep h hblt d03) (And.intro (PtS.keep h hblt d04) (And.intro (PtS.keep h hblt d05) (And.intro (PtS.keep h hblt d06) (And.intro (PtS.keep h hblt d10) (And.intro (PtS.keep h hblt d11) (And.intro (PtS.keep h hblt d12) (And.intro (PtS.keep h hblt d13) (And.intro (PtS.keep h hblt d14) (And.intro (PtS.keep h hblt d15) (And.intro (PtS.keep h hblt d16) (And.intro (PtS.keep h hblt d20) (And.intro (PtS.keep h hblt d21) (And.intro (PtS.keep h hblt d22) (And.intro (PtS.keep h hblt d23) (And.intro (PtS.keep h hblt d24) (And.intro (PtS.keep h hblt d25) (And.intro (PtS.keep h hblt d26) h))))))))))))))))))))))))))))
  have hs0 : PtS W1 W1 := Below.refl _ _
  by_cases hc1 : cn = 1
  · skip
    subst hc1
    obtain rfl : nn = 1 := by omega
    have HJ3 : Hid (∀ w', PtS W1 w' → ∀ A c, Calls Tryz.prog 87 #[.slice A 0 c, .string ⟨#[44, 32]⟩] w' fun r w2 => r = .returned (.string J) ∧ w' = w2) := Lib.hid (fun w' hp A c => HJ2.out w' hp A (fun h => absurd (HRn.out rfl) h) c)
    go_enter Tryz.func34, Tryz.ntmps34
    go_wp2_with fail
    clear hW1
    go_region_held3 (fun w' => w'.cell? ⟨w.heap.size, 1, none⟩ = some (.int .i64 n) ∧ w'.cell? ⟨w.heap.size, 2, none⟩ = some (.string S) ∧ w'.cell? ⟨w.heap.size, 3, none⟩ = some (.string T) ∧ w'.cell? ⟨w.heap.size, 4, none⟩ = some (.slice (some ⟨nb0, noff, none⟩) 1 1) ∧ w'.cell? ⟨w.heap.size, 5, none⟩ = some (.slice (some ⟨b, off, none⟩) nl cl) ∧ w'.cell? ⟨w.heap.size, 6, none⟩ = some (.slice Aa nb ca) ∧ w'.cell? ⟨nb0, noff, none⟩ = some (.string N0) ∧ w'.cell? ⟨b, off, none⟩ = some (.int .i64 k0) ∧ w'.cell? ⟨b, off + 1, none⟩ = some (.int .i64 m0) ∧ w'.cell? ⟨b, off + 2, none⟩ = some (.string s0) ∧ w'.cell? ⟨b, off + 3, none⟩ = some (.string t0) ∧ w'.cell? ⟨b, off + 4, none⟩ = some (.slice B0 q0 r0) ∧ w'.cell? ⟨b, off + 5, none⟩ = some (.slice C0 u0 y0) ∧ w'.cell? ⟨b, off + 6, none⟩ = some (.slice D0 z0 x0) ∧ w'.cell? ⟨b, off + 7, none⟩ = some (.int .i64 k1) ∧ w'.cell? ⟨b, off + 8, none⟩ = some (.int .i64 m1) ∧ w'.cell? ⟨b, off + 9, none⟩ = some (.string s1) ∧ w'.cell? ⟨b, off + 10, none⟩ = some (.string t1) ∧ w'.cell? ⟨b, off + 11, none⟩ = some (.slice B1 q1 r1) ∧ w'.cell? ⟨b, off + 12, none⟩ = some (.slice C1 u1 y1) ∧ w'.cell? ⟨b, off + 13, none⟩ = some (.slice D1 z1 x1) ∧ w'.cell? ⟨b, off + 14, none⟩ = some (.int .i64 k2) ∧ w'.cell? ⟨b, off + 15, none⟩ = some (.int .i64 m2) ∧ w'.cell? ⟨b, off + 16, none⟩ = some (.string s2) ∧ w'.cell? ⟨b, off + 17, none⟩ = some (.string t2) ∧ w'.cell? ⟨b, off + 18, none⟩ = some (.slice B2 q2 r2) ∧ w'.cell? ⟨b, off + 19, none⟩ = some (.slice C2 u2 y2) ∧ w'.cell? ⟨b, off + 20, none⟩ = some (.slice D2 z2 x2) ∧ PtS W1 w')
      ((refine HAll.out _ ?_; first | assumption | exact hs0.drew | exact .below ‹_› hs0.drew | exact .below ‹_› (.below ‹_› hs0.drew) | exact .below ‹_› (.below ‹_› (.below ‹_› hs0.drew))))
      (first | (go_at_call 83; (with_reducible refine (HX0.out _ (by first | assumption | exact hs0.drew | exact .below ‹_› hs0.drew | exact .below ‹_› (.below ‹_› hs0.drew) | exact .below ‹_› (.below ‹_› (.below ‹_› hs0.drew)))).mono ?_); rintro e w' ⟨rfl, hb⟩) | (go_at_call 83; (with_reducible refine (HX1.out _ (by first | assumption | exact hs0.drew | exact .below ‹_› hs0.drew | exact .below ‹_› (.below ‹_› hs0.drew) | exact .below ‹_› (.below ‹_› (.below ‹_› hs0.drew)))).mono ?_); rintro e w' ⟨rfl, hb⟩) | (go_at_call 83; (with_reducible refine (HX2.out _ (by first | assumption | exact hs0.drew | exact .below ‹_› hs0.drew | exact .below ‹_› (.below ‹_› hs0.drew) | exact .below ‹_› (.below ‹_› (.below ‹_› hs0.drew)))).mono ?_); rintro e w' ⟨rfl, hb⟩) | (go_at_call 87; (with_reducible refine (HJ3.out _ (by first | assumption | exact hs0.drew | exact .below ‹_› hs0.drew | exact .below ‹_› (.below ‹_› hs0.drew) | exact .below ‹_› (.below ‹_› (.below ‹_› hs0.drew))) _ _).mono ?_); rintro e w' ⟨rfl, rfl⟩))
    rename_i hh
    have HBn := Lib.hid hh.2.2.2.2.2.2.2.2.2.2.2.2.2.2.2.2.2.2.2.2.2.2.2.2.2.2.2.2
    clear hh HAll hs0
    go_wp2_with fail
    go_ret
    exact ⟨by rw [HR.out]; rfl, HB1.out.trans (Below.mono (show Below W1.heap.size W1 _ from HBn.out) HB1.out.size)⟩
  · have HAJ : Hid (AdrOk rn nb0 noff (some (⟨nb0, noff + 1, none⟩ : Addr))) := Lib.hid (fun _ => rfl)
    go_enter Tryz.func34, Tryz.ntmps34
    go_wp2_with fail
    clear hW1
    go_region_held3 (fun w' => w'.cell? ⟨w.heap.size, 1, none⟩ = some (.int .i64 n) ∧ w'.cell? ⟨w.heap.size, 2, none⟩ = some (.string S) ∧ w'.cell? ⟨w.heap.size, 3, none⟩ = some (.string T) ∧ w'.cell? ⟨w.heap.size, 4, none⟩ = some (.slice (some ⟨nb0, noff, none⟩) nn cn) ∧ w'.cell? ⟨w.heap.size, 5, none⟩ = some (.slice (some ⟨b, off, none⟩) nl cl) ∧ w'.cell? ⟨w.heap.size, 6, none⟩ = some (.slice Aa nb ca) ∧ w'.cell? ⟨nb0, noff, none⟩ = some (.string N0) ∧ w'.cell? ⟨b, off, none⟩ = some (.int .i64 k0) ∧ w'.cell? ⟨b, off + 1, none⟩ = some (.int .i64 m0) ∧ w'.cell? ⟨b, off + 2, none⟩ = some (.string s0) ∧ w'.cell? ⟨b, off + 3, none⟩ = some (.string t0) ∧ w'.cell? ⟨b, off + 4, none⟩ = some (.slice B0 q0 r0) ∧ w'.cell? ⟨b, off + 5, none⟩ = some (.slice C0 u0 y0) ∧ w'.cell? ⟨b, off + 6, none⟩ = some (.slice D0 z0 x0) ∧ w'.cell? ⟨b, off + 7, none⟩ = some (.int .i64 k1) ∧ w'.cell? ⟨b, off + 8, none⟩ = some (.int .i64 m1) ∧ w'.cell? ⟨b, off + 9, none⟩ = some (.string s1) ∧ w'.cell? ⟨b, off + 10, none⟩ = some (.string t1) ∧ w'.cell? ⟨b, off + 11, none⟩ = some (.slice B1 q1 r1) ∧ w'.cell? ⟨b, off + 12, none⟩ = some (.slice C1 u1 y1) ∧ w'.cell? ⟨b, off + 13, none⟩ = some (.slice D1 z1 x1) ∧ w'.cell? ⟨b, off + 14, none⟩ = some (.int .i64 k2) ∧ w'.cell? ⟨b, off + 15, none⟩ = some (.int .i64 m2) ∧ w'.cell? ⟨b, off + 16, none⟩ = some (.string s2) ∧ w'.cell? ⟨b, off + 17, none⟩ = some (.string t2) ∧ w'.cell? ⟨b, off + 18, none⟩ = some (.slice B2 q2 r2) ∧ w'.cell? ⟨b, off + 19, none⟩ = some (.slice C2 u2 y2) ∧ w'.cell? ⟨b, off + 20, none⟩ = some (.slice D2 z2 x2) ∧ PtS W1 w')
      ((refine HAll.out _ ?_; first | assumption | exact hs0.drew | exact .below ‹_› hs0.drew | exact .below ‹_› (.below ‹_› hs0.drew) | exact .below ‹_› (.below ‹_› (.below ‹_› hs0.drew))))
      (first | (go_at_call 83; (with_reducible refine (HX0.out _ (by first | assumption | exact hs0.drew | exact .below ‹_› hs0.drew | exact .below ‹_› (.below ‹_› hs0.drew) | exact .below ‹_› (.below ‹_› (.below ‹_› hs0.drew)))).mono ?_); rintro e w' ⟨rfl, hb⟩) | (go_at_call 83; (with_reducible refine (HX1.out _ (by first | assumption | exact hs0.drew | exact .below ‹_› hs0.drew | exact .below ‹_› (.below ‹_› hs0.drew) | exact .below ‹_› (.below ‹_› (.below ‹_› hs0.drew)))).mono ?_); rintro e w' ⟨rfl, hb⟩) | (go_at_call 83; (with_reducible refine (HX2.out _ (by first | assumption | exact hs0.drew | exact .below ‹_› hs0.drew | exact .below ‹_› (.below ‹_› hs0.drew) | exact .below ‹_› (.below ‹_› (.below ‹_› hs0.drew)))).mono ?_); rintro e w' ⟨rfl, hb⟩) | (go_at_call 87; (with_reducible refine (HJ2.out _ (by first | assumption | exact hs0.drew | exact .below ‹_› hs0.drew | exact .below ‹_› (.below ‹_› hs0.drew) | exact .below ‹_› (.below ‹_› (.below ‹_› hs0.drew))) _ HAJ.out _).mono ?_); rintro e w' ⟨rfl, rfl⟩))
    rename_i hh
    have HBn := Lib.hid hh.2.2.2.2.2.2.2.2.2.2.2.2.2.2.2.2.2.2.2.2.2.2.2.2.2.2.2.2
    clear hh HAll hs0
    go_wp2_with fail
    go_ret
    exact ⟨by rw [HR.out]; rfl, HB1.out.trans (Below.mono (show Below W1.heap.size W1 _ from HBn.out) HB1.out.size)⟩
set_option maxRecDepth 100000 in
set_option maxHeartbeats 4000000 in
theorem tx_resume (n : Int) (s t : Txt) (ns : List Txt) (e0 : Ex) (rl : List Ex) (ops : List (Txt × List Txt)) (bs : List Ex) (hA0 : AtSays e0) (hz0 : (atT 5 e0).length ≤ 3000002) (hs : s.length ≤ 12) (ht : t.length ≤ 12) : TxR (.mk 18 n s t ns (e0 :: rl) ops bs) := by
  intro cs w hre
  have hre2 := hre.tight.weaken (Q := fun b => b < w.heap.size) (fun x hx => hx.2)
  obtain ⟨An, cn, Al, cl, Aa, ca, rfl, hf, hn, hl, ha, ho⟩ := hre2
  show Calls Tryz.prog 34 #[.agg #[.int .i64 18, .int .i64 n, .string (strB s), .string (strB t), .slice An ns.length cn, .slice Al (e0 :: rl).length cl, .slice Aa bs.length ca]] w _
  obtain ⟨W1, hW1⟩ : ∃ W1, w.alloc (.cells #[.int .i64 18, .int .i64 n, .string (strB s), .string (strB t), .slice An ns.length cn, .slice Al (e0 :: rl).length cl, .slice Aa bs.length ca] 27) = W1 := ⟨_, rfl⟩
  have HB1 : Hid (Below w.heap.size w W1) := Lib.hid (by rw [← hW1]; exact (Below.refl _ _).alloc (Nat.le_refl _) _)
  have HE1 : Hid (EB W1 w.heap.size (.int .i64 18) (.int .i64 n) (.string (strB s)) (.string (strB t)) (.slice An ns.length cn) (.slice Al (e0 :: rl).length cl) (.slice Aa bs.length ca)) := Lib.hid (by rw [← hW1]; exact EB.new w _ _ _ _ _ _ _)
  have hlt1 : w.heap.size < W1.heap.size := HE1.out.lt
  obtain ⟨S, hS⟩ : ∃ S, S = strB s := ⟨_, rfl⟩
  obtain ⟨T, hT⟩ : ∃ T, T = strB t := ⟨_, rfl⟩
  have hSz : S.size ≤ 12 := by rw [hS, strB_size]; exact hs
  have hTz : T.size ≤ 12 := by rw [hT, strB_size]; exact ht
  have hPa : PartsAt w.heap.size w Al (e0 :: rl) := parts_of hl
  obtain ⟨b, off, rfl⟩ := hPa.addr (by simp)
  obtain ⟨⟨hb0, _⟩, k0, m0, s0, t0, B0, q0, r0, C0, u0, y0, D0, z0, x0, hc0⟩ := hPa.at (j := 0) (e := e0) rfl
  obtain ⟨X0, hX0⟩ : ∃ X, X = strB (atT 5 e0) := ⟨_, rfl⟩
  have hXz0 : X0.size ≤ 3000002 := by rw [hX0, strB_size]; exact hz0
  have HX0 : Hid (∀ w', PtS W1 w' → Calls Tryz.prog 83 #[.agg #[.int .i64 k0, .int .i64 m0, .string s0, .string t0, .slice B0 q0 r0, .slice C0 u0 y0, .slice D0 z0 x0], .int .i64 5] w' fun r w2 => r = .returned (.string X0) ∧ Below w'.heap.size w' w2) := Lib.hid (fun w' hp => by
    rw [hX0]
    exact hA0 5 _ _ _ _ _ _ _ _ _ _ _ _ _ w' ((hc0.rep.weaken (Q := fun _ => True) (fun _ _ => trivial)).keep (Same.of_below (HB1.out.trans (Below.mono (show Below W1.heap.size W1 w' from hp) HB1.out.size)))))
  obtain ⟨d00, d01, d02, d03, d04, d05, d06⟩ := hc0.up hb0 HB1.out
  simp only [Nat.zero_mul, Nat.add_zero] at d00 d01 d02 d03 d04 d05 d06
  have hblt : b < W1.heap.size := Nat.lt_trans hb0 hlt1
  obtain ⟨R, hR⟩ : ∃ R, R = strB (textE (.mk 18 n s t ns (e0 :: rl) ops bs)) := ⟨_, rfl⟩
  have HR : Hid (R = ⟨#[114, 101, 115, 117, 109, 101, 32]⟩ ++ S ++ ⟨#[32]⟩ ++ X0) := Lib.hid (by
    rw [hR, show textE (.mk 18 n s t ns (e0 :: rl) ops bs) = [114, 101, 115, 117, 109, 101, 32] ++ s ++ [32] ++ atT 5 e0 from by
      exact txeq_resume ..]
    simp only [strB_cat]
    rw [hS, hX0]
    all_goals rfl)
  rw [← hR]
  rw [← hS, ← hT] at HE1 hW1
  rw [← hS, ← hT]
  obtain ⟨nn, hnn⟩ : ∃ q, q = ns.length := ⟨_, rfl⟩
  obtain ⟨nl, hnl⟩ : ∃ q, q = (e0 :: rl).length := ⟨_, rfl⟩
  obtain ⟨nb, hnb⟩ : ∃ q, q = bs.length := ⟨_, rfl⟩
  rw [← hnn, ← hnl, ← hnb] at HE1 hW1
  rw [← hnn, ← hnl, ← hnb]
  have i0 : (0 : Int) < (nl : Int) := by rw [hnl]; simp only [List.length_cons]; omega
  have i0n : 0 < nl := by omega
  have hzz1 : ¬ 9223372036854775807 < 7 + S.size := by omega
  have hzz2 : ¬ 9223372036854775807 < 7 + S.size + 1 := by omega
  have hzz3 : ¬ 9223372036854775807 < 7 + S.size + 1 + X0.size := by omega
  have e0' := HE1.out.c0
  have e1' := HE1.out.c1
  have e2' := HE1.out.c2
  have e3' := HE1.out.c3
  have e4' := HE1.out.c4
  have e5' := HE1.out.c5
  have e6' := HE1.out.c6
  clear hS hT hR hnn hnl hnb hre hf hl ha ho hs ht hn hX0 hc0 hA0 hz0 hPa
  have HAll := Lib.hid (fun w' (h : PtS W1 w') => And.intro (PtS.keep h hlt1 e1') (And.intro (PtS.keep h hlt1 e2') (And.intro (PtS.keep h hlt1 e3') (And.intro (PtS.keep h hlt1 e4') (And.intro (PtS.keep h hlt1 e5') (And.intro (PtS.keep h hlt1 e6') (And.intro (PtS.keep h hblt d00) (And.intro (PtS.keep h hblt d01) (And.intro (PtS.keep h hblt d02) (And.intro (PtS.keep h hblt d03) (And.intro (PtS.keep h hblt d04) (And.intro (PtS.keep h hblt d05) (And.intro (PtS.keep h hblt d06) h)))))))))))))
  have hs0 : PtS W1 W1 := Below.refl _ _
  go_enter Tryz.func34, Tryz.ntmps34
  go_wp2_with fail
  clear hW1
  go_region_held3 (fun w' => w'.cell? ⟨w.heap.size, 1, none⟩ = some (.int .i64 n) ∧ w'.cell? ⟨w.heap.size, 2, none⟩ = some (.string S) ∧ w'.cell? ⟨w.heap.size, 3, none⟩ = some (.string T) ∧ w'.cell? ⟨w.heap.size, 4, none⟩ = some (.slice An nn cn) ∧ w'.cell? ⟨w.heap.size, 5, none⟩ = some (.slice (some ⟨b, off, none⟩) nl cl) ∧ w'.cell? ⟨w.heap.size, 6, none⟩ = some (.slice Aa nb ca) ∧ w'.cell? ⟨b, off, none⟩ = some (.int .i64 k0) ∧ w'.cell? ⟨b, off + 1, none⟩ = some (.int .i64 m0) ∧ w'.cell? ⟨b, off + 2, none⟩ = some (.string s0) ∧ w'.cell? ⟨b, off + 3, none⟩ = some (.string t0) ∧ w'.cell? ⟨b, off + 4, none⟩ = some (.slice B0 q0 r0) ∧ w'.cell? ⟨b, off + 5, none⟩ = some (.slice C0 u0 y0) ∧ w'.cell? ⟨b, off + 6, none⟩ = some (.slice D0 z0 x0) ∧ PtS W1 w')
    ((refine HAll.out _ ?_; first | assumption | exact hs0.drew | exact .below ‹_› hs0.drew | exact .below ‹_› (.below ‹_› hs0.drew) | exact .below ‹_› (.below ‹_› (.below ‹_› hs0.drew))))
    (first | (go_at_call 83; (with_reducible refine (HX0.out _ (by first | assumption | exact hs0.drew | exact .below ‹_› hs0.drew | exact .below ‹_› (.below ‹_› hs0.drew) | exact .below ‹_› (.below ‹_› (.below ‹_› hs0.drew)))).mono ?_); rintro e w' ⟨rfl, hb⟩))
  rename_i hh
  have HBn := Lib.hid hh.2.2.2.2.2.2.2.2.2.2.2.2.2
  clear hh HAll hs0
  go_wp2_with fail
  go_ret
  exact ⟨by rw [HR.out]; rfl, HB1.out.trans (Below.mono (show Below W1.heap.size W1 _ from HBn.out) HB1.out.size)⟩
end Go.Proofs.YtndgoefhhjcllaaGreatDoor
