/- Texts put together by program: ChkJ ParsW ChkK. -/
import Derived.Test.YtbmicnajedeenaaGreatDoorMgC
import Derived.RegionTactic
import Derived.ChangeAlike
import Derived.Test.YtbmicnajedeenaaGreatDoorMgB
/- A node's check. -/
namespace Go.Proofs.YtbmicnajedeenaaGreatDoor
open Go.RowKit

/-- the first error of a node, whose kind is known to be one, without its parts -/
def chkK (kn : Nat) (e : Ex) : Int :=
  if numHas (useOf kn 0) e.n = false then 1
  else if nameHas (useOf kn 1) e.s = false then 4
  else if nameHas (useOf kn 2) e.t = false then 4
  else if cntIn e.ns.length (useOf kn 3) (useOf kn 4) = false then 7
  else if cntIn e.l.length (useOf kn 5) (useOf kn 6) = false then 7
  else if roomB e.bs.length (useOf kn 7) = false then 7
  else if nmsErr e.k e.ns = 0 then armsErr (useOf kn 7) [] e.ops else nmsErr e.k e.ns
/-- the first error of a node, without its parts -/
def chkN (e : Ex) : Int := if 0 ≤ e.k ∧ e.k < 20 then chkK e.k.toNat e else 1

/-- a node's cells lie in a block -/
def NB (w : World) (b : Nat) (cs : List Value) : Prop := CellsAt w b 0 cs ∧ b < w.heap.size
theorem NB.below {w w' : World} {b : Nat} {cs : List Value} (h : NB w b cs) (hb : Below w.heap.size w w') : NB w' b cs := ⟨h.1.keep (P := fun _ => True) trivial h.2 (Same.of_below hb), Nat.lt_of_lt_of_le h.2 hb.size⟩
theorem NB.new (w : World) (cs : List Value) (t : TypeId) : NB (w.alloc (.cells cs.toArray t)).drew w.heap.size cs := by
  refine ⟨fun i v hi => ?_, by show w.heap.size < (w.alloc _).heap.size; simp⟩
  have h : (w.alloc (.cells cs.toArray t)).drew.heap[w.heap.size]? = some (.cells cs.toArray t (0, 0)) := heap_alloc_new w _
  unfold World.cell?
  simp only [h, Nat.zero_add]
  simpa using hi

set_option maxRecDepth 100000 in
set_option maxHeartbeats 8000000 in
theorem chkN_says : ChkSays chkN := by
  intro P x k n s t A0 n0 c0 A1 n1 c1 A2 n2 c2 w hU hre
  have HU := Lib.hid hU
  obtain ⟨R, hR⟩ : ∃ R, R = chkN x := ⟨_, rfl⟩
  have HR := Lib.hid hR
  rw [← hR]
  clear hR hU
  cases x with
  | mk xk xn xs xt ns l ops bs =>
  obtain ⟨An, cn, Al, cl, Aa, ca, e, hf, hn, hl, ha, ho⟩ := hre
  simp only [exCells, List.cons.injEq, Value.int.injEq, Value.string.injEq, Value.slice.injEq, and_true, true_and] at e
  obtain ⟨rfl, rfl, rfl, rfl, ⟨rfl, rfl, rfl⟩, ⟨rfl, rfl, rfl⟩, rfl, rfl, rfl⟩ := e
  have hA : ArmsHd w A2 ops := fun h0 => by
    obtain ⟨b, off, rfl, _, hlt, hr⟩ := ha (fun e => h0 (List.length_eq_zero_iff.1 (by rw [ho, e]; rfl)))
    exact RepA.heads ho hlt hr h0
  have HA := Lib.hid hA
  have HN := Lib.hid (hn.weaken (Q := fun _ => True) (fun _ _ => trivial))
  have HF := Lib.hid hf
  have HO := Lib.hid ho
  clear hA hn hf ha hl ho
  have HB0 := Lib.hid ((Below.refl w.heap.size w).alloc (Nat.le_refl _) (.cells #[.int .i64 k, .int .i64 n, .string (strB xs), .string (strB xt), .slice A0 ns.length c0, .slice A1 l.length c1, .slice A2 bs.length c2] 30))
  by_cases hk : 0 ≤ k ∧ k < 20
  · obtain ⟨kn, rfl⟩ : ∃ kn : Nat, k = (kn : Int) := ⟨k.toNat, by omega⟩
    have hkn : kn < 20 := by omega
    have i0 : (0 : Int) ≤ (kn : Int) := by omega
    have i1 : (kn : Int) < 20 := by omega
    clear hk
    have HRK : Hid (R = if numHas (useOf kn 0) n = false then 1
      else if nameHas (useOf kn 1) xs = false then 4
      else if nameHas (useOf kn 2) xt = false then 4
      else if cntIn ns.length (useOf kn 3) (useOf kn 4) = false then 7
      else if cntIn l.length (useOf kn 5) (useOf kn 6) = false then 7
      else if roomB bs.length (useOf kn 7) = false then 7
      else if nmsErr kn ns = 0 then armsErr (useOf kn 7) [] ops else nmsErr kn ns) := Lib.hid (by rw [HR.out]; unfold chkN; rw [if_pos ⟨i0, i1⟩]; rfl)
    have HBD := Lib.hid (useOf_bd kn hkn)
    -- the callees
    have H1 := Lib.hid (fun wx => numHas_any (useOf kn 0) n HBD.out.1 wx)
    have H2 := Lib.hid (fun wx => nameHas_any (useOf kn 1) xs HBD.out.2.1 HF.out.hs wx)
    have H3 := Lib.hid (fun wx => nameHas_any (useOf kn 2) xt HBD.out.2.2.1 HF.out.ht wx)
    have H4 := Lib.hid (fun wx => counts_any ns.length (useOf kn 3) (useOf kn 4) HBD.out.2.2.2.1 HBD.out.2.2.2.2.1 wx)
    have H5 := Lib.hid (fun wx => counts_any l.length (useOf kn 5) (useOf kn 6) HBD.out.2.2.2.2.2.1 HBD.out.2.2.2.2.2.2.1 wx)
    have H6 := Lib.hid (fun wx => hasRoom_any (.int .i64 kn) (.int .i64 n) (.string (strB xs)) (.string (strB xt)) (.slice A0 ns.length c0) (.slice A1 l.length c1) A2 bs.length c2 (.int .u8 (useOf kn 0)) (.int .u8 (useOf kn 1)) (.int .u8 (useOf kn 2)) (.int .u8 (useOf kn 3)) (.int .u8 (useOf kn 4)) (.int .u8 (useOf kn 5)) (.int .u8 (useOf kn 6)) (useOf kn 7) wx)
    have H7 : Hid (cntIn ns.length (useOf kn 3) (useOf kn 4) = true → ∀ wx, Below w.heap.size w wx → Calls Tryz.prog 115 #[.agg #[.int .i64 kn, .int .i64 n, .string (strB xs), .string (strB xt), .slice A0 ns.length c0, .slice A1 l.length c1, .slice A2 bs.length c2, .int .u8 (useOf kn 0), .int .u8 (useOf kn 1), .int .u8 (useOf kn 2), .int .u8 (useOf kn 3), .int .u8 (useOf kn 4), .int .u8 (useOf kn 5), .int .u8 (useOf kn 6), .int .u8 (useOf kn 7)]] wx fun e w' => e = .returned (.int .i64 (nmsErr kn ns)) ∧ Below wx.heap.size wx w') := Lib.hid (fun hq wx hb =>
      nodeNames_any kn (.int .i64 n) (.string (strB xs)) (.string (strB xt)) A0 c0 (.slice A1 l.length c1) (.slice A2 bs.length c2) _ _ _ _ _ _ _ _ ns wx (HN.out.keep (Same.of_below hb)) HF.out.hcn HF.out.hns (fun e => by
        have e2 : kn = 17 := by omega
        subst e2
        unfold cntIn at hq
        simp only [Bool.and_eq_true, decide_eq_true_eq] at hq
        have h3 : useOf 17 3 = 1 := by decide
        rw [h3] at hq
        omega))
    have H8 : Hid (∀ wx, Below w.heap.size w wx → Calls Tryz.prog 116 #[.agg #[.int .i64 kn, .int .i64 n, .string (strB xs), .string (strB xt), .slice A0 ns.length c0, .slice A1 l.length c1, .slice A2 bs.length c2, .int .u8 (useOf kn 0), .int .u8 (useOf kn 1), .int .u8 (useOf kn 2), .int .u8 (useOf kn 3), .int .u8 (useOf kn 4), .int .u8 (useOf kn 5), .int .u8 (useOf kn 6), .int .u8 (useOf kn 7)]] wx fun e w' => e = .returned (.int .i64 (armsErr (useOf kn 7) [] ops)) ∧ Below wx.heap.size wx w') := Lib.hid (fun wx hb => by
      rw [← HO.out]
      exact checkArms_any (.int .i64 kn) (.int .i64 n) (.string (strB xs)) (.string (strB xt)) (.slice A0 ns.length c0) (.slice A1 l.length c1) A2 c2 _ _ _ _ _ _ _ (useOf kn 7) ops wx (HA.out.below hb) (by rw [HO.out]; exact HF.out.hca))
    -- names for what is computed
    obtain ⟨q0, hq0⟩ : ∃ q, q = useOf kn 0 := ⟨_, rfl⟩
    obtain ⟨q1, hq1⟩ : ∃ q, q = useOf kn 1 := ⟨_, rfl⟩
    obtain ⟨q2, hq2⟩ : ∃ q, q = useOf kn 2 := ⟨_, rfl⟩
    obtain ⟨q3, hq3⟩ : ∃ q, q = useOf kn 3 := ⟨_, rfl⟩
    obtain ⟨q4, hq4⟩ : ∃ q, q = useOf kn 4 := ⟨_, rfl⟩
    obtain ⟨q5, hq5⟩ : ∃ q, q = useOf kn 5 := ⟨_, rfl⟩
    obtain ⟨q6, hq6⟩ : ∃ q, q = useOf kn 6 := ⟨_, rfl⟩
    obtain ⟨q7, hq7⟩ : ∃ q, q = useOf kn 7 := ⟨_, rfl⟩
    obtain ⟨S, hS⟩ : ∃ S, S = strB xs := ⟨_, rfl⟩
    obtain ⟨T, hT⟩ : ∃ T, T = strB xt := ⟨_, rfl⟩
    obtain ⟨m0, hm0⟩ : ∃ m, m = ns.length := ⟨_, rfl⟩
    obtain ⟨m1, hm1⟩ : ∃ m, m = l.length := ⟨_, rfl⟩
    obtain ⟨m2, hm2⟩ : ∃ m, m = bs.length := ⟨_, rfl⟩
    rw [← hq0, ← hq1, ← hq2, ← hq3, ← hq4, ← hq5, ← hq6, ← hq7, ← hS, ← hT, ← hm0, ← hm1, ← hm2] at H6 H7 H8
    rw [← hq0, ← hq1, ← hq2, ← hq3, ← hq4, ← hq5, ← hq6, ← hq7, ← hm0, ← hm1, ← hm2] at HRK
    rw [← hq0] at H1
    rw [← hq1, ← hS] at H2
    rw [← hq2, ← hT] at H3
    rw [← hq3, ← hq4, ← hm0] at H4
    rw [← hq5, ← hq6, ← hm1] at H5
    rw [← hS, ← hT, ← hm0, ← hm1, ← hm2] at HB0 ⊢
    obtain ⟨r1, hr1⟩ : ∃ r, r = numHas q0 n := ⟨_, rfl⟩
    rw [← hr1] at HRK H1
    obtain ⟨r2, hr2⟩ : ∃ r, r = nameHas q1 xs := ⟨_, rfl⟩
    rw [← hr2] at HRK H2
    obtain ⟨r3, hr3⟩ : ∃ r, r = nameHas q2 xt := ⟨_, rfl⟩
    rw [← hr3] at HRK H3
    obtain ⟨r4, hr4⟩ : ∃ r, r = cntIn m0 q3 q4 := ⟨_, rfl⟩
    rw [← hr4] at HRK H4 H7
    obtain ⟨r5, hr5⟩ : ∃ r, r = cntIn m1 q5 q6 := ⟨_, rfl⟩
    rw [← hr5] at HRK H5
    obtain ⟨r6, hr6⟩ : ∃ r, r = roomB m2 q7 := ⟨_, rfl⟩
    rw [← hr6] at HRK H6
    obtain ⟨r7, hr7⟩ : ∃ r, r = nmsErr kn ns := ⟨_, rfl⟩
    rw [← hr7] at HRK H7
    obtain ⟨r8, hr8⟩ : ∃ r, r = armsErr q7 [] ops := ⟨_, rfl⟩
    rw [← hr8] at HRK H8
    obtain ⟨W2, hW2⟩ : ∃ W2, w.alloc (.cells #[.int .i64 (kn : Int), .int .i64 n, .string S, .string T, .slice A0 m0 c0, .slice A1 m1 c1, .slice A2 m2 c2] 30) = W2 := ⟨_, rfl⟩
    have HE0 := Lib.hid (EB.new w (.int .i64 kn) (.int .i64 n) (.string S) (.string T) (.slice A0 m0 c0) (.slice A1 m1 c1) (.slice A2 m2 c2))
    rw [hW2] at HE0 HB0
    have HU2 := Lib.hid (HU.out.below HB0.out)
    have e0 := HE0.out.c0
    have e1 := HE0.out.c1
    have e2 := HE0.out.c2
    have e3 := HE0.out.c3
    have e4 := HE0.out.c4
    have e5 := HE0.out.c5
    have e6 := HE0.out.c6
    have hz2 := HE0.out.lt
    have g0 : W2.cell? ⟨0, kn * 8, none⟩ = some (.int .u8 q0) := by rw [hq0]; exact HU2.out.at kn hkn 0 (by omega)
    have g1 : W2.cell? ⟨0, kn * 8 + 1, none⟩ = some (.int .u8 q1) := by rw [hq1]; exact HU2.out.at kn hkn 1 (by omega)
    have g2 : W2.cell? ⟨0, kn * 8 + 2, none⟩ = some (.int .u8 q2) := by rw [hq2]; exact HU2.out.at kn hkn 2 (by omega)
    have g3 : W2.cell? ⟨0, kn * 8 + 3, none⟩ = some (.int .u8 q3) := by rw [hq3]; exact HU2.out.at kn hkn 3 (by omega)
    have g4 : W2.cell? ⟨0, kn * 8 + 4, none⟩ = some (.int .u8 q4) := by rw [hq4]; exact HU2.out.at kn hkn 4 (by omega)
    have g5 : W2.cell? ⟨0, kn * 8 + 5, none⟩ = some (.int .u8 q5) := by rw [hq5]; exact HU2.out.at kn hkn 5 (by omega)
    have g6 : W2.cell? ⟨0, kn * 8 + 6, none⟩ = some (.int .u8 q6) := by rw [hq6]; exact HU2.out.at kn hkn 6 (by omega)
    have g7 : W2.cell? ⟨0, kn * 8 + 7, none⟩ = some (.int .u8 q7) := by rw [hq7]; exact HU2.out.at kn hkn 7 (by omega)
    have hlt1 : 0 < W2.heap.size := by
      obtain ⟨_, _, h⟩ := HU2.out
      exact (Array.getElem?_eq_some_iff.1 h).1
    have HNB := Lib.hid (NB.new W2 [.int .i64 kn, .int .i64 n, .string S, .string T, .slice A0 m0 c0, .slice A1 m1 c1, .slice A2 m2 c2, .int .u8 q0, .int .u8 q1, .int .u8 q2, .int .u8 q3, .int .u8 q4, .int .u8 q5, .int .u8 q6, .int .u8 q7] 192)
    have HBX : Hid (Below w.heap.size w (W2.alloc (.cells #[.int .i64 kn, .int .i64 n, .string S, .string T, .slice A0 m0 c0, .slice A1 m1 c1, .slice A2 m2 c2, .int .u8 q0, .int .u8 q1, .int .u8 q2, .int .u8 q3, .int .u8 q4, .int .u8 q5, .int .u8 q6, .int .u8 q7] 192)).drew) := Lib.hid (HB0.out.alloc HB0.out.size _).drew
    have i2 : decide ((kn : Int) < 0) = false := by simp
    have i3 : decide (20 ≤ (kn : Int)) = false := by simp; omega
    clear hq0 hq1 hq2 hq3 hq4 hq5 hq6 hq7 hS hT hm0 hm1 hm2 hr1 hr2 hr3 hr4 hr5 hr6 hr7 hr8 HBD HN HA HF HO HU hkn
    go_enter Tryz.func78, Tryz.ntmps78
    go_wp2_with fail
    clear hW2
    go_region
    obtain ⟨W3, hW3⟩ : ∃ W3, (W2.alloc (.cells #[.int .i64 kn, .int .i64 n, .string S, .string T, .slice A0 m0 c0, .slice A1 m1 c1, .slice A2 m2 c2, .int .u8 q0, .int .u8 q1, .int .u8 q2, .int .u8 q3, .int .u8 q4, .int .u8 q5, .int .u8 q6, .int .u8 q7] 192)).drew = W3 := ⟨_, rfl⟩
    rw [hW3] at HNB HBX ⊢
    clear hW3 e0 e1 e2 e3 e4 e5 e6 g0 g1 g2 g3 g4 g5 g6 g7 hlt1 hz2 HE0 HU2
    -- its number
    have f0 : W3.cell? ⟨W2.heap.size, 0, none⟩ = some (.int .i64 kn) := HNB.out.1 0 _ rfl
    have f1 : W3.cell? ⟨W2.heap.size, 1, none⟩ = some (.int .i64 n) := HNB.out.1 1 _ rfl
    have f2 : W3.cell? ⟨W2.heap.size, 2, none⟩ = some (.string S) := HNB.out.1 2 _ rfl
    have f3 : W3.cell? ⟨W2.heap.size, 3, none⟩ = some (.string T) := HNB.out.1 3 _ rfl
    have f4 : W3.cell? ⟨W2.heap.size, 4, none⟩ = some (.slice A0 m0 c0) := HNB.out.1 4 _ rfl
    have f5 : W3.cell? ⟨W2.heap.size, 5, none⟩ = some (.slice A1 m1 c1) := HNB.out.1 5 _ rfl
    have f6 : W3.cell? ⟨W2.heap.size, 6, none⟩ = some (.slice A2 m2 c2) := HNB.out.1 6 _ rfl
    have f7 : W3.cell? ⟨W2.heap.size, 7, none⟩ = some (.int .u8 q0) := HNB.out.1 7 _ rfl
    have f8 : W3.cell? ⟨W2.heap.size, 8, none⟩ = some (.int .u8 q1) := HNB.out.1 8 _ rfl
    have f9 : W3.cell? ⟨W2.heap.size, 9, none⟩ = some (.int .u8 q2) := HNB.out.1 9 _ rfl
    have f10 : W3.cell? ⟨W2.heap.size, 10, none⟩ = some (.int .u8 q3) := HNB.out.1 10 _ rfl
    have f11 : W3.cell? ⟨W2.heap.size, 11, none⟩ = some (.int .u8 q4) := HNB.out.1 11 _ rfl
    have f12 : W3.cell? ⟨W2.heap.size, 12, none⟩ = some (.int .u8 q5) := HNB.out.1 12 _ rfl
    have f13 : W3.cell? ⟨W2.heap.size, 13, none⟩ = some (.int .u8 q6) := HNB.out.1 13 _ rfl
    have f14 : W3.cell? ⟨W2.heap.size, 14, none⟩ = some (.int .u8 q7) := HNB.out.1 14 _ rfl
    cases r1
    · have HR2 : Hid (R = 1) := Lib.hid (by rw [HRK.out, if_pos rfl])
      go_wp2_with fail
      refine (H1.out _).mono ?_
      rintro e w' ⟨rfl, rfl⟩
      go_wp2_with fail
      go_ret
      exact ⟨by rw [HR2.out]; rfl, HBX.out⟩
    rw [if_neg (by simp)] at HRK
    go_wp2_with fail
    refine (H1.out _).mono ?_
    rintro e w' ⟨rfl, rfl⟩
    go_wp2_with fail
    refine (H2.out _).mono ?_
    rintro e W4 ⟨rfl, hb⟩
    have HB4 := Lib.hid (HBX.out.trans (hb.mono HBX.out.size))
    have HN4 := Lib.hid (HNB.out.below hb)
    clear hb HBX HNB f0 f1 f2 f3 f4 f5 f6 f7 f8 f9 f10 f11 f12 f13 f14
    have f0 : W4.cell? ⟨W2.heap.size, 0, none⟩ = some (.int .i64 kn) := HN4.out.1 0 _ rfl
    have f1 : W4.cell? ⟨W2.heap.size, 1, none⟩ = some (.int .i64 n) := HN4.out.1 1 _ rfl
    have f2 : W4.cell? ⟨W2.heap.size, 2, none⟩ = some (.string S) := HN4.out.1 2 _ rfl
    have f3 : W4.cell? ⟨W2.heap.size, 3, none⟩ = some (.string T) := HN4.out.1 3 _ rfl
    have f4 : W4.cell? ⟨W2.heap.size, 4, none⟩ = some (.slice A0 m0 c0) := HN4.out.1 4 _ rfl
    have f5 : W4.cell? ⟨W2.heap.size, 5, none⟩ = some (.slice A1 m1 c1) := HN4.out.1 5 _ rfl
    have f6 : W4.cell? ⟨W2.heap.size, 6, none⟩ = some (.slice A2 m2 c2) := HN4.out.1 6 _ rfl
    have f7 : W4.cell? ⟨W2.heap.size, 7, none⟩ = some (.int .u8 q0) := HN4.out.1 7 _ rfl
    have f8 : W4.cell? ⟨W2.heap.size, 8, none⟩ = some (.int .u8 q1) := HN4.out.1 8 _ rfl
    have f9 : W4.cell? ⟨W2.heap.size, 9, none⟩ = some (.int .u8 q2) := HN4.out.1 9 _ rfl
    have f10 : W4.cell? ⟨W2.heap.size, 10, none⟩ = some (.int .u8 q3) := HN4.out.1 10 _ rfl
    have f11 : W4.cell? ⟨W2.heap.size, 11, none⟩ = some (.int .u8 q4) := HN4.out.1 11 _ rfl
    have f12 : W4.cell? ⟨W2.heap.size, 12, none⟩ = some (.int .u8 q5) := HN4.out.1 12 _ rfl
    have f13 : W4.cell? ⟨W2.heap.size, 13, none⟩ = some (.int .u8 q6) := HN4.out.1 13 _ rfl
    have f14 : W4.cell? ⟨W2.heap.size, 14, none⟩ = some (.int .u8 q7) := HN4.out.1 14 _ rfl
    cases r2
    · have HR2 : Hid (R = 4) := Lib.hid (by rw [HRK.out, if_pos rfl])
      go_wp2_with fail
      go_ret
      exact ⟨by rw [HR2.out]; rfl, HB4.out⟩
    rw [if_neg (by simp)] at HRK
    go_wp2_with fail
    refine (H3.out _).mono ?_
    rintro e W5 ⟨rfl, hb⟩
    have HB5 := Lib.hid (HB4.out.trans (hb.mono HB4.out.size))
    have HN5 := Lib.hid (HN4.out.below hb)
    clear hb HB4 HN4 f0 f1 f2 f3 f4 f5 f6 f7 f8 f9 f10 f11 f12 f13 f14
    have f0 : W5.cell? ⟨W2.heap.size, 0, none⟩ = some (.int .i64 kn) := HN5.out.1 0 _ rfl
    have f1 : W5.cell? ⟨W2.heap.size, 1, none⟩ = some (.int .i64 n) := HN5.out.1 1 _ rfl
    have f2 : W5.cell? ⟨W2.heap.size, 2, none⟩ = some (.string S) := HN5.out.1 2 _ rfl
    have f3 : W5.cell? ⟨W2.heap.size, 3, none⟩ = some (.string T) := HN5.out.1 3 _ rfl
    have f4 : W5.cell? ⟨W2.heap.size, 4, none⟩ = some (.slice A0 m0 c0) := HN5.out.1 4 _ rfl
    have f5 : W5.cell? ⟨W2.heap.size, 5, none⟩ = some (.slice A1 m1 c1) := HN5.out.1 5 _ rfl
    have f6 : W5.cell? ⟨W2.heap.size, 6, none⟩ = some (.slice A2 m2 c2) := HN5.out.1 6 _ rfl
    have f7 : W5.cell? ⟨W2.heap.size, 7, none⟩ = some (.int .u8 q0) := HN5.out.1 7 _ rfl
    have f8 : W5.cell? ⟨W2.heap.size, 8, none⟩ = some (.int .u8 q1) := HN5.out.1 8 _ rfl
    have f9 : W5.cell? ⟨W2.heap.size, 9, none⟩ = some (.int .u8 q2) := HN5.out.1 9 _ rfl
    have f10 : W5.cell? ⟨W2.heap.size, 10, none⟩ = some (.int .u8 q3) := HN5.out.1 10 _ rfl
    have f11 : W5.cell? ⟨W2.heap.size, 11, none⟩ = some (.int .u8 q4) := HN5.out.1 11 _ rfl
    have f12 : W5.cell? ⟨W2.heap.size, 12, none⟩ = some (.int .u8 q5) := HN5.out.1 12 _ rfl
    have f13 : W5.cell? ⟨W2.heap.size, 13, none⟩ = some (.int .u8 q6) := HN5.out.1 13 _ rfl
    have f14 : W5.cell? ⟨W2.heap.size, 14, none⟩ = some (.int .u8 q7) := HN5.out.1 14 _ rfl
    cases r3
    · have HR2 : Hid (R = 4) := Lib.hid (by rw [HRK.out, if_pos rfl])
      go_wp2_with fail
      go_ret
      exact ⟨by rw [HR2.out]; rfl, HB5.out⟩
    rw [if_neg (by simp)] at HRK
    go_wp2_with fail
    refine (H4.out _).mono ?_
    rintro e w' ⟨rfl, rfl⟩
    cases r4
    · have HR2 : Hid (R = 7) := Lib.hid (by rw [HRK.out, if_pos rfl])
      go_wp2_with fail
      go_ret
      exact ⟨by rw [HR2.out]; rfl, HB5.out⟩
    rw [if_neg (by simp)] at HRK
    have H7' := Lib.hid (H7.out rfl)
    clear H7
    go_wp2_with fail
    refine (H5.out _).mono ?_
    rintro e w' ⟨rfl, rfl⟩
    cases r5
    · have HR2 : Hid (R = 7) := Lib.hid (by rw [HRK.out, if_pos rfl])
      go_wp2_with fail
      go_ret
      exact ⟨by rw [HR2.out]; rfl, HB5.out⟩
    rw [if_neg (by simp)] at HRK
    go_wp2_with fail
    refine (H6.out _).mono ?_
    rintro e W6 ⟨rfl, hb⟩
    have HB6 := Lib.hid (HB5.out.trans (hb.mono HB5.out.size))
    have HN6 := Lib.hid (HN5.out.below hb)
    clear hb HB5 HN5 f0 f1 f2 f3 f4 f5 f6 f7 f8 f9 f10 f11 f12 f13 f14
    have f0 : W6.cell? ⟨W2.heap.size, 0, none⟩ = some (.int .i64 kn) := HN6.out.1 0 _ rfl
    have f1 : W6.cell? ⟨W2.heap.size, 1, none⟩ = some (.int .i64 n) := HN6.out.1 1 _ rfl
    have f2 : W6.cell? ⟨W2.heap.size, 2, none⟩ = some (.string S) := HN6.out.1 2 _ rfl
    have f3 : W6.cell? ⟨W2.heap.size, 3, none⟩ = some (.string T) := HN6.out.1 3 _ rfl
    have f4 : W6.cell? ⟨W2.heap.size, 4, none⟩ = some (.slice A0 m0 c0) := HN6.out.1 4 _ rfl
    have f5 : W6.cell? ⟨W2.heap.size, 5, none⟩ = some (.slice A1 m1 c1) := HN6.out.1 5 _ rfl
    have f6 : W6.cell? ⟨W2.heap.size, 6, none⟩ = some (.slice A2 m2 c2) := HN6.out.1 6 _ rfl
    have f7 : W6.cell? ⟨W2.heap.size, 7, none⟩ = some (.int .u8 q0) := HN6.out.1 7 _ rfl
    have f8 : W6.cell? ⟨W2.heap.size, 8, none⟩ = some (.int .u8 q1) := HN6.out.1 8 _ rfl
    have f9 : W6.cell? ⟨W2.heap.size, 9, none⟩ = some (.int .u8 q2) := HN6.out.1 9 _ rfl
    have f10 : W6.cell? ⟨W2.heap.size, 10, none⟩ = some (.int .u8 q3) := HN6.out.1 10 _ rfl
    have f11 : W6.cell? ⟨W2.heap.size, 11, none⟩ = some (.int .u8 q4) := HN6.out.1 11 _ rfl
    have f12 : W6.cell? ⟨W2.heap.size, 12, none⟩ = some (.int .u8 q5) := HN6.out.1 12 _ rfl
    have f13 : W6.cell? ⟨W2.heap.size, 13, none⟩ = some (.int .u8 q6) := HN6.out.1 13 _ rfl
    have f14 : W6.cell? ⟨W2.heap.size, 14, none⟩ = some (.int .u8 q7) := HN6.out.1 14 _ rfl
    cases r6
    · have HR2 : Hid (R = 7) := Lib.hid (by rw [HRK.out, if_pos rfl])
      go_wp2_with fail
      go_ret
      exact ⟨by rw [HR2.out]; rfl, HB6.out⟩
    rw [if_neg (by simp)] at HRK
    go_wp2_with fail
    refine (H7'.out _ HB6.out).mono ?_
    rintro e W7 ⟨rfl, hb⟩
    have HB7 := Lib.hid (HB6.out.trans (hb.mono HB6.out.size))
    have HN7 := Lib.hid (HN6.out.below hb)
    clear hb HB6 HN6 f0 f1 f2 f3 f4 f5 f6 f7 f8 f9 f10 f11 f12 f13 f14
    by_cases h7 : r7 = 0
    · subst h7
      rw [if_pos rfl] at HRK
      have f0 : W7.cell? ⟨W2.heap.size, 0, none⟩ = some (.int .i64 kn) := HN7.out.1 0 _ rfl
      have f1 : W7.cell? ⟨W2.heap.size, 1, none⟩ = some (.int .i64 n) := HN7.out.1 1 _ rfl
      have f2 : W7.cell? ⟨W2.heap.size, 2, none⟩ = some (.string S) := HN7.out.1 2 _ rfl
      have f3 : W7.cell? ⟨W2.heap.size, 3, none⟩ = some (.string T) := HN7.out.1 3 _ rfl
      have f4 : W7.cell? ⟨W2.heap.size, 4, none⟩ = some (.slice A0 m0 c0) := HN7.out.1 4 _ rfl
      have f5 : W7.cell? ⟨W2.heap.size, 5, none⟩ = some (.slice A1 m1 c1) := HN7.out.1 5 _ rfl
      have f6 : W7.cell? ⟨W2.heap.size, 6, none⟩ = some (.slice A2 m2 c2) := HN7.out.1 6 _ rfl
      have f7 : W7.cell? ⟨W2.heap.size, 7, none⟩ = some (.int .u8 q0) := HN7.out.1 7 _ rfl
      have f8 : W7.cell? ⟨W2.heap.size, 8, none⟩ = some (.int .u8 q1) := HN7.out.1 8 _ rfl
      have f9 : W7.cell? ⟨W2.heap.size, 9, none⟩ = some (.int .u8 q2) := HN7.out.1 9 _ rfl
      have f10 : W7.cell? ⟨W2.heap.size, 10, none⟩ = some (.int .u8 q3) := HN7.out.1 10 _ rfl
      have f11 : W7.cell? ⟨W2.heap.size, 11, none⟩ = some (.int .u8 q4) := HN7.out.1 11 _ rfl
      have f12 : W7.cell? ⟨W2.heap.size, 12, none⟩ = some (.int .u8 q5) := HN7.out.1 12 _ rfl
      have f13 : W7.cell? ⟨W2.heap.size, 13, none⟩ = some (.int .u8 q6) := HN7.out.1 13 _ rfl
      have f14 : W7.cell? ⟨W2.heap.size, 14, none⟩ = some (.int .u8 q7) := HN7.out.1 14 _ rfl
      go_wp2_with fail
      refine (H8.out _ HB7.out).mono ?_
      rintro e W8 ⟨rfl, hb⟩
      have HB8 := Lib.hid (HB7.out.trans (hb.mono HB7.out.size))
      clear hb
      go_wp2_with fail
      go_ret
      exact ⟨by rw [HRK.out]; rfl, HB8.out⟩
    · have h7b : (r7 == 0) = false := by simpa using h7
      rw [if_neg h7] at HRK
      clear h7
      go_wp2_with fail
      go_ret
      exact ⟨by rw [HRK.out]; rfl, HB7.out⟩
  · have HR2 : Hid (R = 1) := Lib.hid (by rw [HR.out]; unfold chkN; exact if_neg hk)
    clear HN HA HF HO HU
    by_cases h0 : k < 0
    · go_enter Tryz.func78, Tryz.ntmps78
      go_wp2_with fail
      go_ret
      exact ⟨by rw [HR2.out]; rfl, HB0.out⟩
    · have g1 : decide (k < 0) = false := by simpa using h0
      have g2 : decide (20 ≤ k) = true := by simp; omega
      clear hk h0
      go_enter Tryz.func78, Tryz.ntmps78
      go_wp2_with fail
      go_ret
      exact ⟨by rw [HR2.out]; rfl, HB0.out⟩
end Go.Proofs.YtbmicnajedeenaaGreatDoor
/- ParseExpr, and the two examples. -/
namespace Go.Proofs.YtbmicnajedeenaaGreatDoor
open Go.RowKit

theorem res_pe {tmps : Array Value} {w : World} {g : Nat} {v0 v1 v2 v3 v4 v5 v6 x5 x6 : Value} (h4 : tmps.getD 2 undef = .pointer (some ⟨g, 0, none⟩)) (h5 : tmps.getD 3 undef = x5) (h6 : tmps.getD 4 undef = x6) (h : EB w g v0 v1 v2 v3 v4 v5 v6) :
    (results Tryz.f16 tmps).run Tryz.prog w = .ok (.tuple #[.agg #[v0, v1, v2, v3, v4, v5, v6], x5, x6]) w := by
  have c0 := h.c0
  have c1 := h.c1
  have c2 := h.c2
  have c3 := h.c3
  have c4 := h.c4
  have c5 := h.c5
  have c6 := h.c6
  have h4' : tmps[2]?.getD undef = .pointer (some ⟨g, 0, none⟩) := by simpa using h4
  have h5' : tmps[3]?.getD undef = x5 := by simpa using h5
  have h6' : tmps[4]?.getD undef = x6 := by simpa using h6
  simp [results, Tryz.results16, go_sem, h4', h5', h6', c0, c1, c2, c3, c4, c5, c6]

theorem pe_prep (w : World) : Below w.heap.size w (w.alloc (.cells #[.int .i64 0, .int .i64 0, .string ⟨#[]⟩, .string ⟨#[]⟩, .slice none 0 0, .slice none 0 0, .slice none 0 0] 30)) := (Below.refl _ _).alloc (Nat.le_refl _) _
set_option maxRecDepth 100000 in
set_option maxHeartbeats 2000000 in
theorem parseExpr_fail (s : ByteArray) (pos : Int) (w : World)
    (HP : Hid (∀ w', Below w.heap.size w w' → Calls Tryz.prog 32 #[.string s, .func (.func 33) #[] #[], .func (.func 11) #[] #[]] w' (ParseFail w' pos))) :
    Calls Tryz.prog 16 #[.string s] w (ParseFail w pos) := by
  have HE0 := Lib.hid (EB.new w (.int .i64 0) (.int .i64 0) (.string ⟨#[]⟩) (.string ⟨#[]⟩) (.slice none 0 0) (.slice none 0 0) (.slice none 0 0))
  have HB0 := Lib.hid (pe_prep w)
  go_enter Tryz.func16, Tryz.ntmps16
  go_wp2_with fail
  refine (HP.out _ HB0.out).mono ?_
  rintro e w6 ⟨rfl, hb⟩
  have HE6 := Lib.hid (HE0.out.kept (grown_below hb none) (by simp))
  have HB6 := Lib.hid (HB0.out.trans (hb.mono (by simp)))
  have hz6 := HE6.out.lt
  have e0 := HE6.out.c0
  have r0 := HE6.out.fr 0
  have e1 := HE6.out.c1
  have r1 := HE6.out.fr 1
  have e2 := HE6.out.c2
  have r2 := HE6.out.fr 2
  have e3 := HE6.out.c3
  have r3 := HE6.out.fr 3
  have e4 := HE6.out.c4
  have r4 := HE6.out.fr 4
  have e5 := HE6.out.c5
  have r5 := HE6.out.fr 5
  have e6 := HE6.out.c6
  have r6 := HE6.out.fr 6
  clear hb HP
  go_wp2_with fail
  exact bodyPost_ret (res_pe rfl rfl rfl (HE6.out.all _ _ _ _ _ _ _)) rfl ⟨rfl, HB6.out.grown (set7_grown _ _ _ _ _ _ _ _ _) (by omega) (fun j e => by have : w.heap.size = j := Option.some.inj e; omega)⟩
set_option maxRecDepth 100000 in
set_option maxHeartbeats 2000000 in
theorem parseExpr_ok (s : ByteArray) (ex : Ex) (w : World)
    (HP : Hid (∀ w', Below w.heap.size w w' → Calls Tryz.prog 32 #[.string s, .func (.func 33) #[] #[], .func (.func 11) #[] #[]] w' (ParseTo w' ex))) :
    Calls Tryz.prog 16 #[.string s] w (ParseTo w ex) := by
  have HE0 := Lib.hid (EB.new w (.int .i64 0) (.int .i64 0) (.string ⟨#[]⟩) (.string ⟨#[]⟩) (.slice none 0 0) (.slice none 0 0) (.slice none 0 0))
  have HB0 := Lib.hid (pe_prep w)
  go_enter Tryz.func16, Tryz.ntmps16
  go_wp2_with fail
  refine (HP.out _ HB0.out).mono ?_
  rintro e w6 ⟨k, n, u, t, A0, n0, m0, A1, n1, m1, A2, n2, m2, rfl, hr, hb⟩
  have HE6 := Lib.hid (HE0.out.kept (grown_below hb none) (by simp))
  have HB6 := Lib.hid (HB0.out.trans (hb.mono (by simp)))
  have HR6 := Lib.hid (hr.weaken (Q := fun x => w.heap.size < x) (fun x hx => by simp at hx; omega))
  have hz6 := HE6.out.lt
  have e0 := HE6.out.c0
  have r0 := HE6.out.fr 0
  have e1 := HE6.out.c1
  have r1 := HE6.out.fr 1
  have e2 := HE6.out.c2
  have r2 := HE6.out.fr 2
  have e3 := HE6.out.c3
  have r3 := HE6.out.fr 3
  have e4 := HE6.out.c4
  have r4 := HE6.out.fr 4
  have e5 := HE6.out.c5
  have r5 := HE6.out.fr 5
  have e6 := HE6.out.c6
  have r6 := HE6.out.fr 6
  clear hb hr HP
  go_wp2_with fail
  exact bodyPost_ret (res_pe rfl rfl rfl (HE6.out.all _ _ _ _ _ _ _)) rfl ⟨k, n, u, t, A0, n0, m0, A1, n1, m1, A2, n2, m2, rfl, (HR6.out.keep (Same.of_grown (set7_grown _ _ _ _ _ _ _ _ _) (fun x hx => by simp; omega))).weaken (fun x hx => by omega), HB6.out.grown (set7_grown _ _ _ _ _ _ _ _ _) (by omega) (fun j e => by have : w.heap.size = j := Option.some.inj e; omega)⟩

/-- the tokens of the texts as they are read -/
def xsA : List Tk := [⟨3, [], 1, 0⟩, ⟨4, [43], 0, 2⟩, ⟨3, [], 2, 4⟩, ⟨4, [42], 0, 6⟩, ⟨0, [120], 0, 8⟩, ⟨4, [60], 0, 10⟩, ⟨0, [121], 0, 12⟩]
def xsB : List Tk := [⟨1, [108, 101, 116], 0, 0⟩, ⟨0, [120], 0, 4⟩, ⟨4, [61], 0, 6⟩, ⟨3, [], 1, 8⟩]
theorem lexA : lexS [49, 32, 43, 32, 50, 32, 42, 32, 120, 32, 60, 32, 121] = (xsA, 0, 0) := by kernel_rfl
theorem lexB : lexS [108, 101, 116, 32, 120, 32, 61, 32, 49] = (xsB, 0, 0) := by kernel_rfl
def HCheck (ex : Ex) : Prop := ∀ (P : Nat → Prop) (k n : Int) (s t : ByteArray) (A0 : Option Addr) (n0 c0 : Nat) (A1 : Option Addr) (n1 c1 : Nat) (A2 : Option Addr) (n2 c2 : Nat) (w : World), Uses w → RepE P w ex [.int .i64 k, .int .i64 n, .string s, .string t, .slice A0 n0 c0, .slice A1 n1 c1, .slice A2 n2 c2] →
  Calls Tryz.prog 11 #[.agg #[.int .i64 k, .int .i64 n, .string s, .string t, .slice A0 n0 c0, .slice A1 n1 c1, .slice A2 n2 c2]] w fun e w' => e = .returned (.int .i64 0) ∧ Below w.heap.size w w'
/-- the first example is read -/
theorem parseA (w : World) (hY : Syms w) (hU : Uses w) (hC : HCheck exA) : Calls Tryz.prog 16 #[.string ⟨#[49, 32, 43, 32, 50, 32, 42, 32, 120, 32, 60, 32, 121]⟩] w (ParseTo w exA) :=
  parseExpr_ok _ exA w (Lib.hid fun w1 hb => parse_ok _ xsA tsA exA w1 (hY.grown (grown_below hb none) (by simp)) (by decide) lexA (by decide) rfl (Lib.hid fun b g go c w2 h2 => readAll_ok b g go c tsA 7 exA ⟨5, [], 0, 13⟩ w2 h2 rfl rfl (by decide) (Lib.hid fun w3 h3 => exprA b g go c w3 h3))
    (Lib.hid fun k n s t A0 n0 c0 A1 n1 c1 A2 n2 c2 w4 hb4 h4 => hC _ k n s t A0 n0 c0 A1 n1 c1 A2 n2 c2 w4 ((hU.below hb).below hb4) h4))
/-- the second is not, and the fault is at its end -/
theorem parseB (w : World) (hY : Syms w) : Calls Tryz.prog 16 #[.string ⟨#[108, 101, 116, 32, 120, 32, 61, 32, 49]⟩] w (ParseFail w 9) :=
  parseExpr_fail _ 9 w (Lib.hid fun w1 hb => parse_fail _ xsB tsB 9 w1 (hY.grown (grown_below hb none) (by simp)) (by decide) lexB (by decide) rfl (Lib.hid fun b g go c w2 h2 => readAll_fail b g go c tsB 4 ⟨5, [], 0, 9⟩ w2 h2 rfl (Lib.hid fun w3 h3 => exprFailB b g go c w3 h3)))
end Go.Proofs.YtbmicnajedeenaaGreatDoor
/- The first example is well formed; both examples are parsed. -/
namespace Go.Proofs.YtbmicnajedeenaaGreatDoor
open Go.RowKit

theorem msd_exA : msd chkN exA = (7, 4, 0) := by kernel_rfl
theorem hcheckA : HCheck exA := fun P k n s t A0 n0 c0 A1 n1 c1 A2 n2 c2 w hU h =>
  (Check_any chkN (Lib.hid chkN_says) P exA k n s t A0 n0 c0 A1 n1 c1 A2 n2 c2 w h (by decide +kernel) hU).mono fun e w' hh => ⟨by rw [hh.1, msd_exA], hh.2⟩
theorem parsedA (w : World) (hY : Syms w) (hU : Uses w) : Calls Tryz.prog 16 #[.string ⟨#[49, 32, 43, 32, 50, 32, 42, 32, 120, 32, 60, 32, 121]⟩] w (ParseTo w exA) := parseA w hY hU hcheckA
end Go.Proofs.YtbmicnajedeenaaGreatDoor
