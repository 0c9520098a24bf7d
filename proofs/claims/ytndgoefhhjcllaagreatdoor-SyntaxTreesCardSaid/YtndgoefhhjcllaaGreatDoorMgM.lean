/- Texts put together by program: HeldM RTxH RTxK. -/
import Derived.Test.YtndgoefhhjcllaaGreatDoorMgJ
import Derived.Deep.RegionHeld3
/- Regions that draw their order, by hand: one operation at a time, the frame written out. Append of names to a slice of the call's own. -/
namespace Go.Proofs.YtndgoefhhjcllaaGreatDoor
open Go.RowKit

section
variable {P : Program} {ops : Array Oper} {Q : Exit → Act → World → Prop} {S : World → Prop} {md : Region.Mode}
/-- one operation that only reads, taken first -/
theorem takeH {i : Nat} {oi : Oper} {d : Tmp} {v : Value} {fuel : Nat} {listed : Array Bool} {T : Array Value} {D : List Deferred} {w : World} (hi : ops[i]? = some oi) (hd : oi.dst = some d)
    (hs : Region.noSelect ops = true) (hf : Region.free md ops listed i = true) (hr : (Region.ready md ops listed).contains i = true)
    (hQ : ∀ c a w, Q (.panic c) (a.put oi.dst v) w → Q (.panic c) a w) (hy : YieldsIf P ops S oi v { tmps := T, defers := D }) (hS : S w)
    (h : wpAnyH P md ops Q S fuel (listed.setIfInBounds i true) { tmps := T.setIfInBounds d v, defers := D } w) : wpAnyH P md ops Q S (fuel + 1) listed { tmps := T, defers := D } w :=
  wpAnyH_take hi hs hf hr hQ hy hS (by rw [hd]; exact h)
/-- the one operation that may come up -/
theorem stepH {i : Nat} {oi : Oper} {fuel : Nat} {listed : Array Bool} {a : Act} {w : World} (hr : Region.ready md ops listed = [i]) (hi : ops[i]? = some oi) (hw : Region.wanted oi (yielded ops a.tmps) = true)
    (h : ∀ K : Act → World → Prop, Shut (∀ a w, S w → wpAnyH P md ops Q S fuel (listed.setIfInBounds i true) a w → K a w) → Oper.wp P oi a w K Q) : wpAnyH P md ops Q S (fuel + 1) listed a w :=
  wpAnyH_ready hr (by simp) (AllReadyH.cons hi (fun K hK => by rw [if_pos hw]; exact h K (fun a w hs hx => hK.out a w hs (fun _ => hx))) AllReadyH.nil)
end
set_option maxRecDepth 100000 in
theorem wp_append_names {o : Oper} {a : Act} {K : Act → World → Prop} {Q : Exit → Act → World → Prop} {w : World} (s x : Operand) (ho : o.op = .call { callee := .builtin .append, args := #[s, x], argTypes := #[23, 23] })
    (P : Nat → Prop) (base g : Nat) (OP : ByteArray) (An : Option Addr) (cn m : Nat) (L : List Txt) (hm : m = L.length) (hs : a.eval s = .slice (some ⟨g, 0, none⟩) 1 1) (hown : w.ownsRow base 9 1 (.slice (some ⟨g, 0, none⟩) 1 1) 1 [.string OP])
    (hx : a.eval x = .slice An m cn) (hN : NamesAt P w An L) (hl : L.length ≤ 1000) (hbase : base ≤ w.heap.size)
    (h : ∀ A3 c3 w', w'.ownsRow base 9 1 (.slice A3 (1 + m) c3) (1 + m) (.string OP :: L.map fun x => Value.string (strB x)) → w.grownBy w' (some g) → K (a.put o.dst (.slice A3 (1 + m) c3)) w') : o.wp Tryz.prog a w K Q := by
  obtain ⟨i0, hi, hz0, hz1, hz2⟩ := info_parts infoN
  subst hm
  rcases An with _ | ad
  · have h0 : L = [] := Classical.byContradiction fun h0 => by obtain ⟨_, _, e, _⟩ := hN h0; cases e
    subst h0
    have hrun : (Builtin.append_ #[23, 23] o.type #[.slice (some ⟨g, 0, none⟩) 1 1, .slice none 0 cn]).run Tryz.prog w = .ok (.slice (some ⟨g, 0, none⟩) 1 1) w := by
      simp [Builtin.append_, run_underlying Tryz.underlying23, sizeOf, typeInfo, hi, Builtin.lenOf, Builtin.firstCells, storeCells]
    unfold Oper.wp
    simp [execOp, ho, resolve, invoke, builtin, hs, hx, hrun, Result.andThen]
    exact h _ _ w (by simpa using hown) ⟨rfl, rfl, rfl, Nat.le_refl _, fun _ _ _ => rfl⟩
  · refine wp_append_own w s x 23 ho base 9 i0 (.string ⟨#[]⟩) 1 16 Tryz.underlying23 hi hz0 hz1 hz2 rfl (by decide) _ _ _ hs hown ad L.length cn (L.map fun x => Value.string (strB x)) hx (by simp) (fun j u hj => ?_) (fun u hu => ?_) (by unfold maxLen; omega) (by omega) hbase fun v' w' hown' hg _ => ?_
    · rw [List.getElem?_map, Option.map_eq_some_iff] at hj
      obtain ⟨y, hy, rfl⟩ := hj
      obtain ⟨b, off, e, _, _, hc⟩ := hN (List.ne_nil_of_mem (List.mem_of_getElem? hy))
      injection e with e
      subst e
      rw [add_off]
      exact hc j y hy
    · obtain ⟨y, _, rfl⟩ := List.mem_map.1 hu
      rfl
    · obtain ⟨A3, c3, rfl⟩ := own_slice hown'
      exact h A3 c3 w' (by simpa using hown') hg
end Go.Proofs.YtndgoefhhjcllaaGreatDoor
/- The reference's text: Handle. -/
namespace Go.Proofs.YtndgoefhhjcllaaGreatDoor
open Go.RowKit

theorem wpAnyH_strong {P : Program} {ops : Array Oper} {Q : Exit → Act → World → Prop} {S S' : World → Prop} {md : Region.Mode} (h : ∀ w, S' w → S w) : ∀ (fuel : Nat) (listed : Array Bool) (a : Act) (w : World), wpAnyH P md ops Q S' fuel listed a w → wpAnyH P md ops Q S fuel listed a w
  | 0, _, _, _, hx => hx
  | fuel + 1, _, _, _, hx => ⟨hx.1, fun i hi => wpOp_mono (fun _ _ ⟨hs, hr⟩ => ⟨h _ hs, wpAnyH_strong h fuel _ _ _ hr⟩) (hx.2 i hi)⟩
theorem comp_cell (x y : ByteArray) (W : World) : (W.alloc (.cells #[.string x, .string y] 9)).cell? ⟨W.heap.size, 0, none⟩ = some (.string x) ∧ (W.alloc (.cells #[.string x, .string y] 9)).cell? ⟨W.heap.size, 1, none⟩ = some (.string y) :=
  ⟨cell_of_row _ _ 0 _ _ (0, 0) (heap_alloc_new W _), cell_of_row _ _ 1 _ _ (0, 0) (heap_alloc_new W _)⟩
set_option maxRecDepth 100000 in
set_option maxHeartbeats 4000000 in
theorem tx_handle0 (s t : Txt) (ns : List Txt) (e0 : Ex) (rl : List Ex) (ops : List (Txt × List Txt)) (bs : List Ex) (hA0 : AtSays e0) (hz0 : (atT 0 e0).length ≤ 3000002) (hs : s.length ≤ 12) (ht : t.length ≤ 12) (hC : ClSays ops bs) (hCz : (clT ops bs).length ≤ 30000000) : TxR (.mk 14 0 s t ns (e0 :: rl) ops bs) := by
  intro cs w hre
  have hre2 := hre.tight.weaken (Q := fun b => b < w.heap.size) (fun x hx => hx.2)
  obtain ⟨An, cn, Al, cl, Aa, ca, rfl, hf, hn, hl, ha, ho⟩ := hre2
  show Calls Tryz.prog 34 #[.agg #[.int .i64 14, .int .i64 0, .string (strB s), .string (strB t), .slice An ns.length cn, .slice Al (e0 :: rl).length cl, .slice Aa bs.length ca]] w _
  obtain ⟨W1, hW1⟩ : ∃ W1, w.alloc (.cells #[.int .i64 14, .int .i64 0, .string (strB s), .string (strB t), .slice An ns.length cn, .slice Al (e0 :: rl).length cl, .slice Aa bs.length ca] 27) = W1 := ⟨_, rfl⟩
  have HB1 : Hid (Below w.heap.size w W1) := Lib.hid (by rw [← hW1]; exact (Below.refl _ _).alloc (Nat.le_refl _) _)
  have HE1 : Hid (EB W1 w.heap.size (.int .i64 14) (.int .i64 0) (.string (strB s)) (.string (strB t)) (.slice An ns.length cn) (.slice Al (e0 :: rl).length cl) (.slice Aa bs.length ca)) := Lib.hid (by rw [← hW1]; exact EB.new w _ _ _ _ _ _ _)
  have hlt1 : w.heap.size < W1.heap.size := HE1.out.lt
  obtain ⟨S, hS⟩ : ∃ S, S = strB s := ⟨_, rfl⟩
  obtain ⟨T, hT⟩ : ∃ T, T = strB t := ⟨_, rfl⟩
  have hSz : S.size ≤ 12 := by rw [hS, strB_size]; exact hs
  have hTz : T.size ≤ 12 := by rw [hT, strB_size]; exact ht
  have hPa : PartsAt w.heap.size w Al (e0 :: rl) := parts_of hl
  obtain ⟨b, off, rfl⟩ := hPa.addr (by simp)
  obtain ⟨⟨hb0, _⟩, k0, m0, s0, t0, B0, q0, r0, C0, u0, y0, D0, z0, x0, hc0⟩ := hPa.at (j := 0) (e := e0) rfl
  obtain ⟨X0, hX0⟩ : ∃ X, X = strB (atT 0 e0) := ⟨_, rfl⟩
  have hXz0 : X0.size ≤ 3000002 := by rw [hX0, strB_size]; exact hz0
  have HX0 : Hid (∀ w', PtS W1 w' → Calls Tryz.prog 83 #[.agg #[.int .i64 k0, .int .i64 m0, .string s0, .string t0, .slice B0 q0 r0, .slice C0 u0 y0, .slice D0 z0 x0], .int .i64 0] w' fun r w2 => r = .returned (.string X0) ∧ Below w'.heap.size w' w2) := Lib.hid (fun w' hp => by
    rw [hX0]
    exact hA0 0 _ _ _ _ _ _ _ _ _ _ _ _ _ w' ((hc0.rep.weaken (Q := fun _ => True) (fun _ _ => trivial)).keep (Same.of_below (HB1.out.trans (Below.mono (show Below W1.heap.size W1 w' from hp) HB1.out.size)))))
  obtain ⟨d00, d01, d02, d03, d04, d05, d06⟩ := hc0.up hb0 HB1.out
  simp only [Nat.zero_mul, Nat.add_zero] at d00 d01 d02 d03 d04 d05 d06
  have hblt : b < W1.heap.size := Nat.lt_trans hb0 hlt1
  obtain ⟨C, hC0⟩ : ∃ C, C = strB (clT ops bs) := ⟨_, rfl⟩
  have hCsz : C.size ≤ 30000000 := by rw [hC0, strB_size]; exact hCz
  have HC : Hid (∀ w', PtS W1 w' → Calls Tryz.prog 86 #[.slice Aa bs.length ca] w' fun r w2 => r = .returned (.string C) ∧ Below w'.heap.size w' w2) := Lib.hid (fun w' hp => by
    rw [hC0]
    exact hC Aa ca w' w.heap.size (ArmsAt.below (arms_of ha) (HB1.out.trans (Below.mono (show Below W1.heap.size W1 w' from hp) HB1.out.size))) ho (Nat.le_trans HB1.out.size (Below.size hp)))
  obtain ⟨R, hR⟩ : ∃ R, R = strB (textE (.mk 14 0 s t ns (e0 :: rl) ops bs)) := ⟨_, rfl⟩
  have HR : Hid (R = ⟨#[104, 97, 110, 100, 108, 101, 32]⟩ ++ S ++ ⟨#[32]⟩ ++ X0 ++ ⟨#[32]⟩ ++ C) := Lib.hid (by
    rw [hR, show textE (.mk 14 0 s t ns (e0 :: rl) ops bs) = [104, 97, 110, 100, 108, 101, 32] ++ s ++ [32] ++ atT 0 e0 ++ [32] ++ clT ops bs from by
      exact txeq_handle0 ..]
    simp only [strB_cat]
    rw [hS, hX0, hC0]
    all_goals rfl)
  rw [← hR]
  rw [← hS, ← hT] at HE1 hW1
  rw [← hS, ← hT]
  obtain ⟨nn, hnn⟩ : ∃ q, q = ns.length := ⟨_, rfl⟩
  obtain ⟨nl, hnl⟩ : ∃ q, q = (e0 :: rl).length := ⟨_, rfl⟩
  obtain ⟨nb, hnb⟩ : ∃ q, q = bs.length := ⟨_, rfl⟩
  rw [← hnn, ← hnl, ← hnb] at HE1 hW1
  rw [← hnb] at HC
  rw [← hnn, ← hnl, ← hnb]
  have i0 : (0 : Int) < (nl : Int) := by rw [hnl]; simp only [List.length_cons]; omega
  have i0n : 0 < nl := by omega
  have hzz1 : ¬ 9223372036854775807 < 7 + S.size := by omega
  have hzz2 : ¬ 9223372036854775807 < 7 + S.size + 1 := by omega
  have hzz3 : ¬ 9223372036854775807 < 7 + S.size + 1 + X0.size := by omega
  have hzz4 : ¬ 9223372036854775807 < 7 + S.size + 1 + X0.size + 1 := by omega
  have hzz5 : ¬ 9223372036854775807 < 7 + S.size + 1 + X0.size + 1 + C.size := by omega
  have e0' := HE1.out.c0
  have e1' := HE1.out.c1
  have e2' := HE1.out.c2
  have e3' := HE1.out.c3
  have e4' := HE1.out.c4
  have e5' := HE1.out.c5
  have e6' := HE1.out.c6
  clear hS hT hR hnn hnl hnb hre hf hl ha ho hs ht hn hX0 hc0 hA0 hz0 hPa hC0 hC hCz
  have HAll := Lib.hid (fun w' (h : PtS W1 w') => And.intro (PtS.keep h hlt1 e1') (And.intro (PtS.keep h hlt1 e2') (And.intro (PtS.keep h hlt1 e3') (And.intro (PtS.keep h hlt1 e4') (And.intro (PtS.keep h hlt1 e5') (And.intro (PtS.keep h hlt1 e6') (And.intro (PtS.keep h hblt d00) (And.intro (PtS.keep h hblt d01) (And.intro (PtS.keep h hblt d02) (And.intro (PtS.keep h hblt d03) (And.intro (PtS.keep h hblt d04) (And.intro (PtS.keep h hblt d05) (And.intro (PtS.keep h hblt d06) h)))))))))))))
  have hs0 : PtS W1 W1 := Below.refl _ _
  go_enter Tryz.func34, Tryz.ntmps34
  go_wp2_with fail
  clear hW1
  have HCn := Lib.hid (fun W => (comp_cell ⟨#[104, 97, 110, 100, 108, 101, 32]⟩ ⟨#[115, 104, 97, 108, 108, 111, 119, 32]⟩ W).1)
  refine wp_region_held_drew (S := fun w' => w'.cell? ⟨w.heap.size, 1, none⟩ = some (.int .i64 0) ∧ w'.cell? ⟨w.heap.size, 2, none⟩ = some (.string S) ∧ w'.cell? ⟨w.heap.size, 3, none⟩ = some (.string T) ∧ w'.cell? ⟨w.heap.size, 4, none⟩ = some (.slice An nn cn) ∧ w'.cell? ⟨w.heap.size, 5, none⟩ = some (.slice (some ⟨b, off, none⟩) nl cl) ∧ w'.cell? ⟨w.heap.size, 6, none⟩ = some (.slice Aa nb ca) ∧ w'.cell? ⟨b, off, none⟩ = some (.int .i64 k0) ∧ w'.cell? ⟨b, off + 1, none⟩ = some (.int .i64 m0) ∧ w'.cell? ⟨b, off + 2, none⟩ = some (.string s0) ∧ w'.cell? ⟨b, off + 3, none⟩ = some (.string t0) ∧ w'.cell? ⟨b, off + 4, none⟩ = some (.slice B0 q0 r0) ∧ w'.cell? ⟨b, off + 5, none⟩ = some (.slice C0 u0 y0) ∧ w'.cell? ⟨b, off + 6, none⟩ = some (.slice D0 z0 x0) ∧ PtS W1 w') (by kernel_rfl) (HAll.out _ (PtS.drew hs0)) (fun hHeld => ?_)
  refine takeH (i := 1) (d := 203) (v := (.pointer (some ⟨w.heap.size, 1, none⟩))) rfl rfl (by kernel_rfl) (by kernel_rfl) (by kernel_rfl) (fun _ _ _ h => h) (Or.inl ⟨by kernel_rfl, fun w hSw => (by (try dsimp only at hSw); go_simp)⟩) hHeld ?_
  refine takeH (i := 2) (d := 204) (v := (.int .i64 0)) rfl rfl (by kernel_rfl) (by kernel_rfl) (by kernel_rfl) (fun _ _ _ h => h) (Or.inl ⟨by kernel_rfl, fun w hSw => (by (try dsimp only at hSw); go_simp)⟩) hHeld ?_
  refine takeH (i := 5) (d := 207) (v := (.pointer (some ⟨w.heap.size, 2, none⟩))) rfl rfl (by kernel_rfl) (by kernel_rfl) (by kernel_rfl) (fun _ _ _ h => h) (Or.inl ⟨by kernel_rfl, fun w hSw => (by (try dsimp only at hSw); go_simp)⟩) hHeld ?_
  refine takeH (i := 6) (d := 208) (v := (.string S)) rfl rfl (by kernel_rfl) (by kernel_rfl) (by kernel_rfl) (fun _ _ _ h => h) (Or.inl ⟨by kernel_rfl, fun w hSw => (by (try dsimp only at hSw); go_simp)⟩) hHeld ?_
  refine takeH (i := 9) (d := 211) (v := (.pointer (some ⟨w.heap.size, 5, none⟩))) rfl rfl (by kernel_rfl) (by kernel_rfl) (by kernel_rfl) (fun _ _ _ h => h) (Or.inl ⟨by kernel_rfl, fun w hSw => (by (try dsimp only at hSw); go_simp)⟩) hHeld ?_
  refine takeH (i := 10) (d := 212) (v := (.slice (some ⟨b, off, none⟩) nl cl)) rfl rfl (by kernel_rfl) (by kernel_rfl) (by kernel_rfl) (fun _ _ _ h => h) (Or.inl ⟨by kernel_rfl, fun w hSw => (by (try dsimp only at hSw); go_simp)⟩) hHeld ?_
  refine takeH (i := 11) (d := 213) (v := (.pointer (some ⟨b, off, none⟩))) rfl rfl (by kernel_rfl) (by kernel_rfl) (by kernel_rfl) (fun _ _ _ h => h) (Or.inl ⟨by kernel_rfl, fun w hSw => (by (try dsimp only at hSw); go_simp)⟩) hHeld ?_
  refine takeH (i := 12) (d := 214) (v := (.agg #[.int .i64 k0, .int .i64 m0, .string s0, .string t0, .slice B0 q0 r0, .slice C0 u0 y0, .slice D0 z0 x0])) rfl rfl (by kernel_rfl) (by kernel_rfl) (by kernel_rfl) (fun _ _ _ h => h) (Or.inl ⟨by kernel_rfl, fun w hSw => (by (try dsimp only at hSw); go_simp)⟩) hHeld ?_
  refine takeH (i := 16) (d := 218) (v := (.pointer (some ⟨w.heap.size, 6, none⟩))) rfl rfl (by kernel_rfl) (by kernel_rfl) (by kernel_rfl) (fun _ _ _ h => h) (Or.inl ⟨by kernel_rfl, fun w hSw => (by (try dsimp only at hSw); go_simp)⟩) hHeld ?_
  refine takeH (i := 17) (d := 219) (v := (.slice Aa nb ca)) rfl rfl (by kernel_rfl) (by kernel_rfl) (by kernel_rfl) (fun _ _ _ h => h) (Or.inl ⟨by kernel_rfl, fun w hSw => (by (try dsimp only at hSw); go_simp)⟩) hHeld ?_
  simp only [List.setIfInBounds_toArray, List.set_cons_succ, List.set_cons_zero]
  refine wpAnyH_ready (rs := [0, 13]) (by kernel_rfl) (by simp) (AllReadyH.cons rfl (fun K hK => ?_) (AllReadyH.cons rfl (fun K hK => ?_) AllReadyH.nil))
  · obtain ⟨WA, hWA⟩ : ∃ W, (W1.alloc (.cells #[.string ⟨#[104, 97, 110, 100, 108, 101, 32]⟩, .string ⟨#[115, 104, 97, 108, 108, 111, 119, 32]⟩] 9)).drew = W := ⟨_, rfl⟩
    have HPA : Hid (PtS W1 WA) := Lib.hid (by rw [← hWA]; exact PtS.drew (PtS.below ((Below.refl _ _).alloc (Nat.le_refl _) _) hs0))
    have HCA : Hid (WA.cell? ⟨W1.heap.size, 0, none⟩ = some (.string ⟨#[104, 97, 110, 100, 108, 101, 32]⟩)) := Lib.hid (by rw [← hWA]; exact HCn.out W1)
    have hltA : W1.heap.size < WA.heap.size := by rw [← hWA]; simp
    go_simp
    clear hWA
    refine hK.out _ _ (HAll.out _ HPA.out) (fun _ => ?_)
    clear hK K
    refine wpAnyH_strong (S' := fun w' => PtS W1 w' ∧ w'.cell? ⟨W1.heap.size, 0, none⟩ = some (.string ⟨#[104, 97, 110, 100, 108, 101, 32]⟩)) (fun w' h => HAll.out _ h.1) _ _ _ _ ?_
    have hH := And.intro HPA.out HCA.out
    refine takeH (i := 3) (d := 205) (v := (.pointer (some ⟨W1.heap.size, 0, none⟩))) rfl rfl (by kernel_rfl) (by kernel_rfl) (by kernel_rfl) (fun _ _ _ h => h) (Or.inl ⟨by kernel_rfl, fun w hSw => (by (try dsimp only at hSw); go_simp)⟩) hH ?_
    refine takeH (i := 4) (d := 206) (v := (.string (⟨#[104, 97, 110, 100, 108, 101, 32]⟩))) rfl rfl (by kernel_rfl) (by kernel_rfl) (by kernel_rfl) (fun _ _ _ h => h) (Or.inl ⟨by kernel_rfl, fun w hSw => (by (try dsimp only at hSw); go_simp)⟩) hH ?_
    refine takeH (i := 7) (d := 209) (v := (.string (⟨#[104, 97, 110, 100, 108, 101, 32]⟩ ++ S))) rfl rfl (by kernel_rfl) (by kernel_rfl) (by kernel_rfl) (fun _ _ _ h => h) (Or.inl ⟨by kernel_rfl, fun w hSw => (by (try dsimp only at hSw); go_simp)⟩) hH ?_
    refine takeH (i := 8) (d := 210) (v := (.string (⟨#[104, 97, 110, 100, 108, 101, 32]⟩ ++ S ++ ⟨#[32]⟩))) rfl rfl (by kernel_rfl) (by kernel_rfl) (by kernel_rfl) (fun _ _ _ h => h) (Or.inl ⟨by kernel_rfl, fun w hSw => (by (try dsimp only at hSw); go_simp)⟩) hH ?_
    simp only [List.setIfInBounds_toArray, List.set_cons_succ, List.set_cons_zero]
    refine stepH (i := 13) (by kernel_rfl) rfl (by kernel_rfl) (fun K hK => ?_)
    go_simp
    refine (HX0.out WA HPA.out).mono ?_
    rintro e w2 ⟨rfl, hb2⟩
    have hlt2 : W1.heap.size < w2.heap.size := Nat.lt_of_lt_of_le hltA hb2.size
    have hH2 := And.intro (PtS.below hb2 HPA.out) ((Below.cell (p := ⟨W1.heap.size, 0, none⟩) hb2 hltA).trans HCA.out)
    clear hb2 hH
    refine hK.out _ _ hH2 ?_
    clear hK K
    have hH := hH2
    clear hH2
    refine takeH (i := 14) (d := 216) (v := (.string (⟨#[104, 97, 110, 100, 108, 101, 32]⟩ ++ S ++ ⟨#[32]⟩ ++ X0))) rfl rfl (by kernel_rfl) (by kernel_rfl) (by kernel_rfl) (fun _ _ _ h => h) (Or.inl ⟨by kernel_rfl, fun w hSw => (by (try dsimp only at hSw); go_simp)⟩) hH ?_
    refine takeH (i := 15) (d := 217) (v := (.string (⟨#[104, 97, 110, 100, 108, 101, 32]⟩ ++ S ++ ⟨#[32]⟩ ++ X0 ++ ⟨#[32]⟩))) rfl rfl (by kernel_rfl) (by kernel_rfl) (by kernel_rfl) (fun _ _ _ h => h) (Or.inl ⟨by kernel_rfl, fun w hSw => (by (try dsimp only at hSw); go_simp)⟩) hH ?_
    simp only [List.setIfInBounds_toArray, List.set_cons_succ, List.set_cons_zero]
    refine stepH (i := 18) (by kernel_rfl) rfl (by kernel_rfl) (fun K hK => ?_)
    go_simp
    refine (HC.out w2 hH.1).mono ?_
    rintro e w3 ⟨rfl, hb3⟩
    have hH3 := And.intro (PtS.below hb3 hH.1) ((Below.cell (p := ⟨W1.heap.size, 0, none⟩) hb3 hlt2).trans hH.2)
    clear hb3 hH
    refine hK.out _ _ hH3 ?_
    clear hK K
    have hH := hH3
    clear hH3
    refine takeH (i := 19) (d := 221) (v := (.string (⟨#[104, 97, 110, 100, 108, 101, 32]⟩ ++ S ++ ⟨#[32]⟩ ++ X0 ++ ⟨#[32]⟩ ++ C))) rfl rfl (by kernel_rfl) (by kernel_rfl) (by kernel_rfl) (fun _ _ _ h => h) (Or.inl ⟨by kernel_rfl, fun w hSw => (by (try dsimp only at hSw); go_simp)⟩) hH ?_
    refine takeH (i := 20) (d := 2) (v := (.string (⟨#[104, 97, 110, 100, 108, 101, 32]⟩ ++ S ++ ⟨#[32]⟩ ++ X0 ++ ⟨#[32]⟩ ++ C))) rfl rfl (by kernel_rfl) (by kernel_rfl) (by kernel_rfl) (fun _ _ _ h => h) (Or.inl ⟨by kernel_rfl, fun w hSw => (by (try dsimp only at hSw); go_simp)⟩) hH ?_
    simp only [List.setIfInBounds_toArray, List.set_cons_succ, List.set_cons_zero]
    refine wpAnyH_done (by kernel_rfl) ?_ _
    have HF := Lib.hid hH.1
    clear hH
    go_wp2_with fail
    go_ret
    exact ⟨by rw [HR.out]; rfl, HB1.out.trans (Below.mono (show Below W1.heap.size W1 _ from HF.out) HB1.out.size)⟩
  · go_simp
    refine (HX0.out _ (PtS.drew hs0)).mono ?_
    rintro e w2 ⟨rfl, hb2⟩
    have HP2 : Hid (PtS W1 w2) := Lib.hid (PtS.below hb2 (PtS.drew hs0))
    clear hb2
    refine hK.out _ _ (HAll.out _ HP2.out) (fun hHeld => ?_)
    clear hK K
    refine wpAnyH_ready (rs := [0, 18]) (by kernel_rfl) (by simp) (AllReadyH.cons rfl (fun K hK => ?_) (AllReadyH.cons rfl (fun K hK => ?_) AllReadyH.nil))
    · obtain ⟨WA, hWA⟩ : ∃ W, (w2.alloc (.cells #[.string ⟨#[104, 97, 110, 100, 108, 101, 32]⟩, .string ⟨#[115, 104, 97, 108, 108, 111, 119, 32]⟩] 9)) = W := ⟨_, rfl⟩
      have HPA : Hid (PtS W1 WA) := Lib.hid (by rw [← hWA]; exact PtS.below ((Below.refl _ _).alloc (Nat.le_refl _) _) HP2.out)
      have HCA : Hid (WA.cell? ⟨w2.heap.size, 0, none⟩ = some (.string ⟨#[104, 97, 110, 100, 108, 101, 32]⟩)) := Lib.hid (by rw [← hWA]; exact HCn.out w2)
      have hltA : w2.heap.size < WA.heap.size := by rw [← hWA]; simp
      go_simp
      clear hWA
      refine hK.out _ _ (HAll.out _ HPA.out) (fun _ => ?_)
      clear hK K
      refine wpAnyH_strong (S' := fun w' => PtS W1 w' ∧ w'.cell? ⟨w2.heap.size, 0, none⟩ = some (.string ⟨#[104, 97, 110, 100, 108, 101, 32]⟩)) (fun w' h => HAll.out _ h.1) _ _ _ _ ?_
      have hH := And.intro HPA.out HCA.out
      refine takeH (i := 3) (d := 205) (v := (.pointer (some ⟨w2.heap.size, 0, none⟩))) rfl rfl (by kernel_rfl) (by kernel_rfl) (by kernel_rfl) (fun _ _ _ h => h) (Or.inl ⟨by kernel_rfl, fun w hSw => (by (try dsimp only at hSw); go_simp)⟩) hH ?_
      refine takeH (i := 4) (d := 206) (v := (.string (⟨#[104, 97, 110, 100, 108, 101, 32]⟩))) rfl rfl (by kernel_rfl) (by kernel_rfl) (by kernel_rfl) (fun _ _ _ h => h) (Or.inl ⟨by kernel_rfl, fun w hSw => (by (try dsimp only at hSw); go_simp)⟩) hH ?_
      refine takeH (i := 7) (d := 209) (v := (.string (⟨#[104, 97, 110, 100, 108, 101, 32]⟩ ++ S))) rfl rfl (by kernel_rfl) (by kernel_rfl) (by kernel_rfl) (fun _ _ _ h => h) (Or.inl ⟨by kernel_rfl, fun w hSw => (by (try dsimp only at hSw); go_simp)⟩) hH ?_
      refine takeH (i := 8) (d := 210) (v := (.string (⟨#[104, 97, 110, 100, 108, 101, 32]⟩ ++ S ++ ⟨#[32]⟩))) rfl rfl (by kernel_rfl) (by kernel_rfl) (by kernel_rfl) (fun _ _ _ h => h) (Or.inl ⟨by kernel_rfl, fun w hSw => (by (try dsimp only at hSw); go_simp)⟩) hH ?_
      refine takeH (i := 14) (d := 216) (v := (.string (⟨#[104, 97, 110, 100, 108, 101, 32]⟩ ++ S ++ ⟨#[32]⟩ ++ X0))) rfl rfl (by kernel_rfl) (by kernel_rfl) (by kernel_rfl) (fun _ _ _ h => h) (Or.inl ⟨by kernel_rfl, fun w hSw => (by (try dsimp only at hSw); go_simp)⟩) hH ?_
      refine takeH (i := 15) (d := 217) (v := (.string (⟨#[104, 97, 110, 100, 108, 101, 32]⟩ ++ S ++ ⟨#[32]⟩ ++ X0 ++ ⟨#[32]⟩))) rfl rfl (by kernel_rfl) (by kernel_rfl) (by kernel_rfl) (fun _ _ _ h => h) (Or.inl ⟨by kernel_rfl, fun w hSw => (by (try dsimp only at hSw); go_simp)⟩) hH ?_
      simp only [List.setIfInBounds_toArray, List.set_cons_succ, List.set_cons_zero]
      refine stepH (i := 18) (by kernel_rfl) rfl (by kernel_rfl) (fun K hK => ?_)
      go_simp
      refine (HC.out WA hH.1).mono ?_
      rintro e w3 ⟨rfl, hb3⟩
      have hH3 := And.intro (PtS.below hb3 hH.1) ((Below.cell (p := ⟨w2.heap.size, 0, none⟩) hb3 hltA).trans hH.2)
      clear hb3 hH
      refine hK.out _ _ hH3 ?_
      clear hK K
      have hH := hH3
      clear hH3
      refine takeH (i := 19) (d := 221) (v := (.string (⟨#[104, 97, 110, 100, 108, 101, 32]⟩ ++ S ++ ⟨#[32]⟩ ++ X0 ++ ⟨#[32]⟩ ++ C))) rfl rfl (by kernel_rfl) (by kernel_rfl) (by kernel_rfl) (fun _ _ _ h => h) (Or.inl ⟨by kernel_rfl, fun w hSw => (by (try dsimp only at hSw); go_simp)⟩) hH ?_
      refine takeH (i := 20) (d := 2) (v := (.string (⟨#[104, 97, 110, 100, 108, 101, 32]⟩ ++ S ++ ⟨#[32]⟩ ++ X0 ++ ⟨#[32]⟩ ++ C))) rfl rfl (by kernel_rfl) (by kernel_rfl) (by kernel_rfl) (fun _ _ _ h => h) (Or.inl ⟨by kernel_rfl, fun w hSw => (by (try dsimp only at hSw); go_simp)⟩) hH ?_
      simp only [List.setIfInBounds_toArray, List.set_cons_succ, List.set_cons_zero]
      refine wpAnyH_done (by kernel_rfl) ?_ _
      have HF := Lib.hid hH.1
      clear hH
      go_wp2_with fail
      go_ret
      exact ⟨by rw [HR.out]; rfl, HB1.out.trans (Below.mono (show Below W1.heap.size W1 _ from HF.out) HB1.out.size)⟩
    · go_simp
      refine (HC.out w2 HP2.out).mono ?_
      rintro e w3 ⟨rfl, hb3⟩
      have HP3 : Hid (PtS W1 w3) := Lib.hid (PtS.below hb3 HP2.out)
      clear hb3
      refine hK.out _ _ (HAll.out _ HP3.out) (fun hHeld3 => ?_)
      clear hK K
      refine stepH (i := 0) (by kernel_rfl) rfl (by kernel_rfl) (fun K hK => ?_)
      obtain ⟨WA, hWA⟩ : ∃ W, (w3.alloc (.cells #[.string ⟨#[104, 97, 110, 100, 108, 101, 32]⟩, .string ⟨#[115, 104, 97, 108, 108, 111, 119, 32]⟩] 9)) = W := ⟨_, rfl⟩
      have HPA : Hid (PtS W1 WA) := Lib.hid (by rw [← hWA]; exact PtS.below ((Below.refl _ _).alloc (Nat.le_refl _) _) HP3.out)
      have HCA : Hid (WA.cell? ⟨w3.heap.size, 0, none⟩ = some (.string ⟨#[104, 97, 110, 100, 108, 101, 32]⟩)) := Lib.hid (by rw [← hWA]; exact HCn.out w3)
      go_simp
      clear hWA
      refine hK.out _ _ (HAll.out _ HPA.out) ?_
      clear hK K
      refine wpAnyH_strong (S' := fun w' => PtS W1 w' ∧ w'.cell? ⟨w3.heap.size, 0, none⟩ = some (.string ⟨#[104, 97, 110, 100, 108, 101, 32]⟩)) (fun w' h => HAll.out _ h.1) _ _ _ _ ?_
      have hH := And.intro HPA.out HCA.out
      refine takeH (i := 3) (d := 205) (v := (.pointer (some ⟨w3.heap.size, 0, none⟩))) rfl rfl (by kernel_rfl) (by kernel_rfl) (by kernel_rfl) (fun _ _ _ h => h) (Or.inl ⟨by kernel_rfl, fun w hSw => (by (try dsimp only at hSw); go_simp)⟩) hH ?_
      refine takeH (i := 4) (d := 206) (v := (.string (⟨#[104, 97, 110, 100, 108, 101, 32]⟩))) rfl rfl (by kernel_rfl) (by kernel_rfl) (by kernel_rfl) (fun _ _ _ h => h) (Or.inl ⟨by kernel_rfl, fun w hSw => (by (try dsimp only at hSw); go_simp)⟩) hH ?_
      refine takeH (i := 7) (d := 209) (v := (.string (⟨#[104, 97, 110, 100, 108, 101, 32]⟩ ++ S))) rfl rfl (by kernel_rfl) (by kernel_rfl) (by kernel_rfl) (fun _ _ _ h => h) (Or.inl ⟨by kernel_rfl, fun w hSw => (by (try dsimp only at hSw); go_simp)⟩) hH ?_
      refine takeH (i := 8) (d := 210) (v := (.string (⟨#[104, 97, 110, 100, 108, 101, 32]⟩ ++ S ++ ⟨#[32]⟩))) rfl rfl (by kernel_rfl) (by kernel_rfl) (by kernel_rfl) (fun _ _ _ h => h) (Or.inl ⟨by kernel_rfl, fun w hSw => (by (try dsimp only at hSw); go_simp)⟩) hH ?_
      refine takeH (i := 14) (d := 216) (v := (.string (⟨#[104, 97, 110, 100, 108, 101, 32]⟩ ++ S ++ ⟨#[32]⟩ ++ X0))) rfl rfl (by kernel_rfl) (by kernel_rfl) (by kernel_rfl) (fun _ _ _ h => h) (Or.inl ⟨by kernel_rfl, fun w hSw => (by (try dsimp only at hSw); go_simp)⟩) hH ?_
      refine takeH (i := 15) (d := 217) (v := (.string (⟨#[104, 97, 110, 100, 108, 101, 32]⟩ ++ S ++ ⟨#[32]⟩ ++ X0 ++ ⟨#[32]⟩))) rfl rfl (by kernel_rfl) (by kernel_rfl) (by kernel_rfl) (fun _ _ _ h => h) (Or.inl ⟨by kernel_rfl, fun w hSw => (by (try dsimp only at hSw); go_simp)⟩) hH ?_
      refine takeH (i := 19) (d := 221) (v := (.string (⟨#[104, 97, 110, 100, 108, 101, 32]⟩ ++ S ++ ⟨#[32]⟩ ++ X0 ++ ⟨#[32]⟩ ++ C))) rfl rfl (by kernel_rfl) (by kernel_rfl) (by kernel_rfl) (fun _ _ _ h => h) (Or.inl ⟨by kernel_rfl, fun w hSw => (by (try dsimp only at hSw); go_simp)⟩) hH ?_
      refine takeH (i := 20) (d := 2) (v := (.string (⟨#[104, 97, 110, 100, 108, 101, 32]⟩ ++ S ++ ⟨#[32]⟩ ++ X0 ++ ⟨#[32]⟩ ++ C))) rfl rfl (by kernel_rfl) (by kernel_rfl) (by kernel_rfl) (fun _ _ _ h => h) (Or.inl ⟨by kernel_rfl, fun w hSw => (by (try dsimp only at hSw); go_simp)⟩) hH ?_
      simp only [List.setIfInBounds_toArray, List.set_cons_succ, List.set_cons_zero]
      refine wpAnyH_done (by kernel_rfl) ?_ _
      have HF := Lib.hid hH.1
      clear hH
      go_wp2_with fail
      go_ret
      exact ⟨by rw [HR.out]; rfl, HB1.out.trans (Below.mono (show Below W1.heap.size W1 _ from HF.out) HB1.out.size)⟩
set_option maxRecDepth 100000 in
set_option maxHeartbeats 4000000 in
theorem tx_handle1 (s t : Txt) (ns : List Txt) (e0 : Ex) (rl : List Ex) (ops : List (Txt × List Txt)) (bs : List Ex) (hA0 : AtSays e0) (hz0 : (atT 0 e0).length ≤ 3000002) (hs : s.length ≤ 12) (ht : t.length ≤ 12) (hC : ClSays ops bs) (hCz : (clT ops bs).length ≤ 30000000) : TxR (.mk 14 1 s t ns (e0 :: rl) ops bs) := by
  intro cs w hre
  have hre2 := hre.tight.weaken (Q := fun b => b < w.heap.size) (fun x hx => hx.2)
  obtain ⟨An, cn, Al, cl, Aa, ca, rfl, hf, hn, hl, ha, ho⟩ := hre2
  show Calls Tryz.prog 34 #[.agg #[.int .i64 14, .int .i64 1, .string (strB s), .string (strB t), .slice An ns.length cn, .slice Al (e0 :: rl).length cl, .slice Aa bs.length ca]] w _
  obtain ⟨W1, hW1⟩ : ∃ W1, w.alloc (.cells #[.int .i64 14, .int .i64 1, .string (strB s), .string (strB t), .slice An ns.length cn, .slice Al (e0 :: rl).length cl, .slice Aa bs.length ca] 27) = W1 := ⟨_, rfl⟩
  have HB1 : Hid (Below w.heap.size w W1) := Lib.hid (by rw [← hW1]; exact (Below.refl _ _).alloc (Nat.le_refl _) _)
  have HE1 : Hid (EB W1 w.heap.size (.int .i64 14) (.int .i64 1) (.string (strB s)) (.string (strB t)) (.slice An ns.length cn) (.slice Al (e0 :: rl).length cl) (.slice Aa bs.length ca)) := Lib.hid (by rw [← hW1]; exact EB.new w _ _ _ _ _ _ _)
  have hlt1 : w.heap.size < W1.heap.size := HE1.out.lt
  obtain ⟨S, hS⟩ : ∃ S, S = strB s := ⟨_, rfl⟩
  obtain ⟨T, hT⟩ : ∃ T, T = strB t := ⟨_, rfl⟩
  have hSz : S.size ≤ 12 := by rw [hS, strB_size]; exact hs
  have hTz : T.size ≤ 12 := by rw [hT, strB_size]; exact ht
  have hPa : PartsAt w.heap.size w Al (e0 :: rl) := parts_of hl
  obtain ⟨b, off, rfl⟩ := hPa.addr (by simp)
  obtain ⟨⟨hb0, _⟩, k0, m0, s0, t0, B0, q0, r0, C0, u0, y0, D0, z0, x0, hc0⟩ := hPa.at (j := 0) (e := e0) rfl
  obtain ⟨X0, hX0⟩ : ∃ X, X = strB (atT 0 e0) := ⟨_, rfl⟩
  have hXz0 : X0.size ≤ 3000002 := by rw [hX0, strB_size]; exact hz0
  have HX0 : Hid (∀ w', PtS W1 w' → Calls Tryz.prog 83 #[.agg #[.int .i64 k0, .int .i64 m0, .string s0, .string t0, .slice B0 q0 r0, .slice C0 u0 y0, .slice D0 z0 x0], .int .i64 0] w' fun r w2 => r = .returned (.string X0) ∧ Below w'.heap.size w' w2) := Lib.hid (fun w' hp => by
    rw [hX0]
    exact hA0 0 _ _ _ _ _ _ _ _ _ _ _ _ _ w' ((hc0.rep.weaken (Q := fun _ => True) (fun _ _ => trivial)).keep (Same.of_below (HB1.out.trans (Below.mono (show Below W1.heap.size W1 w' from hp) HB1.out.size)))))
  obtain ⟨d00, d01, d02, d03, d04, d05, d06⟩ := hc0.up hb0 HB1.out
  simp only [Nat.zero_mul, Nat.add_zero] at d00 d01 d02 d03 d04 d05 d06
  have hblt : b < W1.heap.size := Nat.lt_trans hb0 hlt1
  obtain ⟨C, hC0⟩ : ∃ C, C = strB (clT ops bs) := ⟨_, rfl⟩
  have hCsz : C.size ≤ 30000000 := by rw [hC0, strB_size]; exact hCz
  have HC : Hid (∀ w', PtS W1 w' → Calls Tryz.prog 86 #[.slice Aa bs.length ca] w' fun r w2 => r = .returned (.string C) ∧ Below w'.heap.size w' w2) := Lib.hid (fun w' hp => by
    rw [hC0]
    exact hC Aa ca w' w.heap.size (ArmsAt.below (arms_of ha) (HB1.out.trans (Below.mono (show Below W1.heap.size W1 w' from hp) HB1.out.size))) ho (Nat.le_trans HB1.out.size (Below.size hp)))
  obtain ⟨R, hR⟩ : ∃ R, R = strB (textE (.mk 14 1 s t ns (e0 :: rl) ops bs)) := ⟨_, rfl⟩
  have HR : Hid (R = ⟨#[115, 104, 97, 108, 108, 111, 119, 32]⟩ ++ S ++ ⟨#[32]⟩ ++ X0 ++ ⟨#[32]⟩ ++ C) := Lib.hid (by
    rw [hR, show textE (.mk 14 1 s t ns (e0 :: rl) ops bs) = [115, 104, 97, 108, 108, 111, 119, 32] ++ s ++ [32] ++ atT 0 e0 ++ [32] ++ clT ops bs from by
      exact txeq_handle1 ..]
    simp only [strB_cat]
    rw [hS, hX0, hC0]
    all_goals rfl)
  rw [← hR]
  rw [← hS, ← hT] at HE1 hW1
  rw [← hS, ← hT]
  obtain ⟨nn, hnn⟩ : ∃ q, q = ns.length := ⟨_, rfl⟩
  obtain ⟨nl, hnl⟩ : ∃ q, q = (e0 :: rl).length := ⟨_, rfl⟩
  obtain ⟨nb, hnb⟩ : ∃ q, q = bs.length := ⟨_, rfl⟩
  rw [← hnn, ← hnl, ← hnb] at HE1 hW1
  rw [← hnb] at HC
  rw [← hnn, ← hnl, ← hnb]
  have i0 : (0 : Int) < (nl : Int) := by rw [hnl]; simp only [List.length_cons]; omega
  have i0n : 0 < nl := by omega
  have hzz1 : ¬ 9223372036854775807 < 8 + S.size := by omega
  have hzz2 : ¬ 9223372036854775807 < 8 + S.size + 1 := by omega
  have hzz3 : ¬ 9223372036854775807 < 8 + S.size + 1 + X0.size := by omega
  have hzz4 : ¬ 9223372036854775807 < 8 + S.size + 1 + X0.size + 1 := by omega
  have hzz5 : ¬ 9223372036854775807 < 8 + S.size + 1 + X0.size + 1 + C.size := by omega
  have e0' := HE1.out.c0
  have e1' := HE1.out.c1
  have e2' := HE1.out.c2
  have e3' := HE1.out.c3
  have e4' := HE1.out.c4
  have e5' := HE1.out.c5
  have e6' := HE1.out.c6
  clear hS hT hR hnn hnl hnb hre hf hl ha ho hs ht hn hX0 hc0 hA0 hz0 hPa hC0 hC hCz
  have HAll := Lib.hid (fun w' (h : PtS W1 w') => And.intro (PtS.keep h hlt1 e1') (And.intro (PtS.keep h hlt1 e2') (And.intro (PtS.keep h hlt1 e3') (And.intro (PtS.keep h hlt1 e4') (And.intro (PtS.keep h hlt1 e5') (And.intro (PtS.keep h hlt1 e6') (And.intro (PtS.keep h hblt d00) (And.intro (PtS.keep h hblt d01) (And.intro (PtS.keep h hblt d02) (And.intro (PtS.keep h hblt d03) (And.intro (PtS.keep h hblt d04) (And.intro (PtS.keep h hblt d05) (And.intro (PtS.keep h hblt d06) h)))))))))))))
  have hs0 : PtS W1 W1 := Below.refl _ _
  go_enter Tryz.func34, Tryz.ntmps34
  go_wp2_with fail
  clear hW1
  have HCn := Lib.hid (fun W => (comp_cell ⟨#[104, 97, 110, 100, 108, 101, 32]⟩ ⟨#[115, 104, 97, 108, 108, 111, 119, 32]⟩ W).2)
  refine wp_region_held_drew (S := fun w' => w'.cell? ⟨w.heap.size, 1, none⟩ = some (.int .i64 1) ∧ w'.cell? ⟨w.heap.size, 2, none⟩ = some (.string S) ∧ w'.cell? ⟨w.heap.size, 3, none⟩ = some (.string T) ∧ w'.cell? ⟨w.heap.size, 4, none⟩ = some (.slice An nn cn) ∧ w'.cell? ⟨w.heap.size, 5, none⟩ = some (.slice (some ⟨b, off, none⟩) nl cl) ∧ w'.cell? ⟨w.heap.size, 6, none⟩ = some (.slice Aa nb ca) ∧ w'.cell? ⟨b, off, none⟩ = some (.int .i64 k0) ∧ w'.cell? ⟨b, off + 1, none⟩ = some (.int .i64 m0) ∧ w'.cell? ⟨b, off + 2, none⟩ = some (.string s0) ∧ w'.cell? ⟨b, off + 3, none⟩ = some (.string t0) ∧ w'.cell? ⟨b, off + 4, none⟩ = some (.slice B0 q0 r0) ∧ w'.cell? ⟨b, off + 5, none⟩ = some (.slice C0 u0 y0) ∧ w'.cell? ⟨b, off + 6, none⟩ = some (.slice D0 z0 x0) ∧ PtS W1 w') (by kernel_rfl) (HAll.out _ (PtS.drew hs0)) (fun hHeld => ?_)
  refine takeH (i := 1) (d := 203) (v := (.pointer (some ⟨w.heap.size, 1, none⟩))) rfl rfl (by kernel_rfl) (by kernel_rfl) (by kernel_rfl) (fun _ _ _ h => h) (Or.inl ⟨by kernel_rfl, fun w hSw => (by (try dsimp only at hSw); go_simp)⟩) hHeld ?_
  refine takeH (i := 2) (d := 204) (v := (.int .i64 1)) rfl rfl (by kernel_rfl) (by kernel_rfl) (by kernel_rfl) (fun _ _ _ h => h) (Or.inl ⟨by kernel_rfl, fun w hSw => (by (try dsimp only at hSw); go_simp)⟩) hHeld ?_
  refine takeH (i := 5) (d := 207) (v := (.pointer (some ⟨w.heap.size, 2, none⟩))) rfl rfl (by kernel_rfl) (by kernel_rfl) (by kernel_rfl) (fun _ _ _ h => h) (Or.inl ⟨by kernel_rfl, fun w hSw => (by (try dsimp only at hSw); go_simp)⟩) hHeld ?_
  refine takeH (i := 6) (d := 208) (v := (.string S)) rfl rfl (by kernel_rfl) (by kernel_rfl) (by kernel_rfl) (fun _ _ _ h => h) (Or.inl ⟨by kernel_rfl, fun w hSw => (by (try dsimp only at hSw); go_simp)⟩) hHeld ?_
  refine takeH (i := 9) (d := 211) (v := (.pointer (some ⟨w.heap.size, 5, none⟩))) rfl rfl (by kernel_rfl) (by kernel_rfl) (by kernel_rfl) (fun _ _ _ h => h) (Or.inl ⟨by kernel_rfl, fun w hSw => (by (try dsimp only at hSw); go_simp)⟩) hHeld ?_
  refine takeH (i := 10) (d := 212) (v := (.slice (some ⟨b, off, none⟩) nl cl)) rfl rfl (by kernel_rfl) (by kernel_rfl) (by kernel_rfl) (fun _ _ _ h => h) (Or.inl ⟨by kernel_rfl, fun w hSw => (by (try dsimp only at hSw); go_simp)⟩) hHeld ?_
  refine takeH (i := 11) (d := 213) (v := (.pointer (some ⟨b, off, none⟩))) rfl rfl (by kernel_rfl) (by kernel_rfl) (by kernel_rfl) (fun _ _ _ h => h) (Or.inl ⟨by kernel_rfl, fun w hSw => (by (try dsimp only at hSw); go_simp)⟩) hHeld ?_
  refine takeH (i := 12) (d := 214) (v := (.agg #[.int .i64 k0, .int .i64 m0, .string s0, .string t0, .slice B0 q0 r0, .slice C0 u0 y0, .slice D0 z0 x0])) rfl rfl (by kernel_rfl) (by kernel_rfl) (by kernel_rfl) (fun _ _ _ h => h) (Or.inl ⟨by kernel_rfl, fun w hSw => (by (try dsimp only at hSw); go_simp)⟩) hHeld ?_
  refine takeH (i := 16) (d := 218) (v := (.pointer (some ⟨w.heap.size, 6, none⟩))) rfl rfl (by kernel_rfl) (by kernel_rfl) (by kernel_rfl) (fun _ _ _ h => h) (Or.inl ⟨by kernel_rfl, fun w hSw => (by (try dsimp only at hSw); go_simp)⟩) hHeld ?_
  refine takeH (i := 17) (d := 219) (v := (.slice Aa nb ca)) rfl rfl (by kernel_rfl) (by kernel_rfl) (by kernel_rfl) (fun _ _ _ h => h) (Or.inl ⟨by kernel_rfl, fun w hSw => (by (try dsimp only at hSw); go_simp)⟩) hHeld ?_
  simp only [List.setIfInBounds_toArray, List.set_cons_succ, List.set_cons_zero]
  refine wpAnyH_ready (rs := [0, 13]) (by kernel_rfl) (by simp) (AllReadyH.cons rfl (fun K hK => ?_) (AllReadyH.cons rfl (fun K hK => ?_) AllReadyH.nil))
  · obtain ⟨WA, hWA⟩ : ∃ W, (W1.alloc (.cells #[.string ⟨#[104, 97, 110, 100, 108, 101, 32]⟩, .string ⟨#[115, 104, 97, 108, 108, 111, 119, 32]⟩] 9)).drew = W := ⟨_, rfl⟩
    have HPA : Hid (PtS W1 WA) := Lib.hid (by rw [← hWA]; exact PtS.drew (PtS.below ((Below.refl _ _).alloc (Nat.le_refl _) _) hs0))
    have HCA : Hid (WA.cell? ⟨W1.heap.size, 1, none⟩ = some (.string ⟨#[115, 104, 97, 108, 108, 111, 119, 32]⟩)) := Lib.hid (by rw [← hWA]; exact HCn.out W1)
    have hltA : W1.heap.size < WA.heap.size := by rw [← hWA]; simp
    go_simp
    clear hWA
    refine hK.out _ _ (HAll.out _ HPA.out) (fun _ => ?_)
    clear hK K
    refine wpAnyH_strong (S' := fun w' => PtS W1 w' ∧ w'.cell? ⟨W1.heap.size, 1, none⟩ = some (.string ⟨#[115, 104, 97, 108, 108, 111, 119, 32]⟩)) (fun w' h => HAll.out _ h.1) _ _ _ _ ?_
    have hH := And.intro HPA.out HCA.out
    refine takeH (i := 3) (d := 205) (v := (.pointer (some ⟨W1.heap.size, 1, none⟩))) rfl rfl (by kernel_rfl) (by kernel_rfl) (by kernel_rfl) (fun _ _ _ h => h) (Or.inl ⟨by kernel_rfl, fun w hSw => (by (try dsimp only at hSw); go_simp)⟩) hH ?_
    refine takeH (i := 4) (d := 206) (v := (.string (⟨#[115, 104, 97, 108, 108, 111, 119, 32]⟩))) rfl rfl (by kernel_rfl) (by kernel_rfl) (by kernel_rfl) (fun _ _ _ h => h) (Or.inl ⟨by kernel_rfl, fun w hSw => (by (try dsimp only at hSw); go_simp)⟩) hH ?_
    refine takeH (i := 7) (d := 209) (v := (.string (⟨#[115, 104, 97, 108, 108, 111, 119, 32]⟩ ++ S))) rfl rfl (by kernel_rfl) (by kernel_rfl) (by kernel_rfl) (fun _ _ _ h => h) (Or.inl ⟨by kernel_rfl, fun w hSw => (by (try dsimp only at hSw); go_simp)⟩) hH ?_
    refine takeH (i := 8) (d := 210) (v := (.string (⟨#[115, 104, 97, 108, 108, 111, 119, 32]⟩ ++ S ++ ⟨#[32]⟩))) rfl rfl (by kernel_rfl) (by kernel_rfl) (by kernel_rfl) (fun _ _ _ h => h) (Or.inl ⟨by kernel_rfl, fun w hSw => (by (try dsimp only at hSw); go_simp)⟩) hH ?_
    simp only [List.setIfInBounds_toArray, List.set_cons_succ, List.set_cons_zero]
    refine stepH (i := 13) (by kernel_rfl) rfl (by kernel_rfl) (fun K hK => ?_)
    go_simp
    refine (HX0.out WA HPA.out).mono ?_
    rintro e w2 ⟨rfl, hb2⟩
    have hlt2 : W1.heap.size < w2.heap.size := Nat.lt_of_lt_of_le hltA hb2.size
    have hH2 := And.intro (PtS.below hb2 HPA.out) ((Below.cell (p := ⟨W1.heap.size, 1, none⟩) hb2 hltA).trans HCA.out)
    clear hb2 hH
    refine hK.out _ _ hH2 ?_
    clear hK K
    have hH := hH2
    clear hH2
    refine takeH (i := 14) (d := 216) (v := (.string (⟨#[115, 104, 97, 108, 108, 111, 119, 32]⟩ ++ S ++ ⟨#[32]⟩ ++ X0))) rfl rfl (by kernel_rfl) (by kernel_rfl) (by kernel_rfl) (fun _ _ _ h => h) (Or.inl ⟨by kernel_rfl, fun w hSw => (by (try dsimp only at hSw); go_simp)⟩) hH ?_
    refine takeH (i := 15) (d := 217) (v := (.string (⟨#[115, 104, 97, 108, 108, 111, 119, 32]⟩ ++ S ++ ⟨#[32]⟩ ++ X0 ++ ⟨#[32]⟩))) rfl rfl (by kernel_rfl) (by kernel_rfl) (by kernel_rfl) (fun _ _ _ h => h) (Or.inl ⟨by kernel_rfl, fun w hSw => (by (try dsimp only at hSw); go_simp)⟩) hH ?_
    simp only [List.setIfInBounds_toArray, List.set_cons_succ, List.set_cons_zero]
    refine stepH (i := 18) (by kernel_rfl) rfl (by kernel_rfl) (fun K hK => ?_)
    go_simp
    refine (HC.out w2 hH.1).mono ?_
    rintro e w3 ⟨rfl, hb3⟩
    have hH3 := And.intro (PtS.below hb3 hH.1) ((Below.cell (p := ⟨W1.heap.size, 1, none⟩) hb3 hlt2).trans hH.2)
    clear hb3 hH
    refine hK.out _ _ hH3 ?_
    clear hK K
    have hH := hH3
    clear hH3
    refine takeH (i := 19) (d := 221) (v := (.string (⟨#[115, 104, 97, 108, 108, 111, 119, 32]⟩ ++ S ++ ⟨#[32]⟩ ++ X0 ++ ⟨#[32]⟩ ++ C))) rfl rfl (by kernel_rfl) (by kernel_rfl) (by kernel_rfl) (fun _ _ _ h => h) (Or.inl ⟨by kernel_rfl, fun w hSw => (by (try dsimp only at hSw); go_simp)⟩) hH ?_
    refine takeH (i := 20) (d := 2) (v := (.string (⟨#[115, 104, 97, 108, 108, 111, 119, 32]⟩ ++ S ++ ⟨#[32]⟩ ++ X0 ++ ⟨#[32]⟩ ++ C))) rfl rfl (by kernel_rfl) (by kernel_rfl) (by kernel_rfl) (fun _ _ _ h => h) (Or.inl ⟨by kernel_rfl, fun w hSw => (by (try dsimp only at hSw); go_simp)⟩) hH ?_
    simp only [List.setIfInBounds_toArray, List.set_cons_succ, List.set_cons_zero]
    refine wpAnyH_done (by kernel_rfl) ?_ _
    have HF := Lib.hid hH.1
    clear hH
    go_wp2_with fail
    go_ret
    exact ⟨by rw [HR.out]; rfl, HB1.out.trans (Below.mono (show Below W1.heap.size W1 _ from HF.out) HB1.out.size)⟩
  · go_simp
    refine (HX0.out _ (PtS.drew hs0)).mono ?_
    rintro e w2 ⟨rfl, hb2⟩
    have HP2 : Hid (PtS W1 w2) := Lib.hid (PtS.below hb2 (PtS.drew hs0))
    clear hb2
    refine hK.out _ _ (HAll.out _ HP2.out) (fun hHeld => ?_)
    clear hK K
    refine wpAnyH_ready (rs := [0, 18]) (by kernel_rfl) (by simp) (AllReadyH.cons rfl (fun K hK => ?_) (AllReadyH.cons rfl (fun K hK => ?_) AllReadyH.nil))
    · obtain ⟨WA, hWA⟩ : ∃ W, (w2.alloc (.cells #[.string ⟨#[104, 97, 110, 100, 108, 101, 32]⟩, .string ⟨#[115, 104, 97, 108, 108, 111, 119, 32]⟩] 9)) = W := ⟨_, rfl⟩
      have HPA : Hid (PtS W1 WA) := Lib.hid (by rw [← hWA]; exact PtS.below ((Below.refl _ _).alloc (Nat.le_refl _) _) HP2.out)
      have HCA : Hid (WA.cell? ⟨w2.heap.size, 1, none⟩ = some (.string ⟨#[115, 104, 97, 108, 108, 111, 119, 32]⟩)) := Lib.hid (by rw [← hWA]; exact HCn.out w2)
      have hltA : w2.heap.size < WA.heap.size := by rw [← hWA]; simp
      go_simp
      clear hWA
      refine hK.out _ _ (HAll.out _ HPA.out) (fun _ => ?_)
      clear hK K
      refine wpAnyH_strong (S' := fun w' => PtS W1 w' ∧ w'.cell? ⟨w2.heap.size, 1, none⟩ = some (.string ⟨#[115, 104, 97, 108, 108, 111, 119, 32]⟩)) (fun w' h => HAll.out _ h.1) _ _ _ _ ?_
      have hH := And.intro HPA.out HCA.out
      refine takeH (i := 3) (d := 205) (v := (.pointer (some ⟨w2.heap.size, 1, none⟩))) rfl rfl (by kernel_rfl) (by kernel_rfl) (by kernel_rfl) (fun _ _ _ h => h) (Or.inl ⟨by kernel_rfl, fun w hSw => (by (try dsimp only at hSw); go_simp)⟩) hH ?_
      refine takeH (i := 4) (d := 206) (v := (.string (⟨#[115, 104, 97, 108, 108, 111, 119, 32]⟩))) rfl rfl (by kernel_rfl) (by kernel_rfl) (by kernel_rfl) (fun _ _ _ h => h) (Or.inl ⟨by kernel_rfl, fun w hSw => (by (try dsimp only at hSw); go_simp)⟩) hH ?_
      refine takeH (i := 7) (d := 209) (v := (.string (⟨#[115, 104, 97, 108, 108, 111, 119, 32]⟩ ++ S))) rfl rfl (by kernel_rfl) (by kernel_rfl) (by kernel_rfl) (fun _ _ _ h => h) (Or.inl ⟨by kernel_rfl, fun w hSw => (by (try dsimp only at hSw); go_simp)⟩) hH ?_
      refine takeH (i := 8) (d := 210) (v := (.string (⟨#[115, 104, 97, 108, 108, 111, 119, 32]⟩ ++ S ++ ⟨#[32]⟩))) rfl rfl (by kernel_rfl) (by kernel_rfl) (by kernel_rfl) (fun _ _ _ h => h) (Or.inl ⟨by kernel_rfl, fun w hSw => (by (try dsimp only at hSw); go_simp)⟩) hH ?_
      refine takeH (i := 14) (d := 216) (v := (.string (⟨#[115, 104, 97, 108, 108, 111, 119, 32]⟩ ++ S ++ ⟨#[32]⟩ ++ X0))) rfl rfl (by kernel_rfl) (by kernel_rfl) (by kernel_rfl) (fun _ _ _ h => h) (Or.inl ⟨by kernel_rfl, fun w hSw => (by (try dsimp only at hSw); go_simp)⟩) hH ?_
      refine takeH (i := 15) (d := 217) (v := (.string (⟨#[115, 104, 97, 108, 108, 111, 119, 32]⟩ ++ S ++ ⟨#[32]⟩ ++ X0 ++ ⟨#[32]⟩))) rfl rfl (by kernel_rfl) (by kernel_rfl) (by kernel_rfl) (fun _ _ _ h => h) (Or.inl ⟨by kernel_rfl, fun w hSw => (by (try dsimp only at hSw); go_simp)⟩) hH ?_
      simp only [List.setIfInBounds_toArray, List.set_cons_succ, List.set_cons_zero]
      refine stepH (i := 18) (by kernel_rfl) rfl (by kernel_rfl) (fun K hK => ?_)
      go_simp
      refine (HC.out WA hH.1).mono ?_
      rintro e w3 ⟨rfl, hb3⟩
      have hH3 := And.intro (PtS.below hb3 hH.1) ((Below.cell (p := ⟨w2.heap.size, 1, none⟩) hb3 hltA).trans hH.2)
      clear hb3 hH
      refine hK.out _ _ hH3 ?_
      clear hK K
      have hH := hH3
      clear hH3
      refine takeH (i := 19) (d := 221) (v := (.string (⟨#[115, 104, 97, 108, 108, 111, 119, 32]⟩ ++ S ++ ⟨#[32]⟩ ++ X0 ++ ⟨#[32]⟩ ++ C))) rfl rfl (by kernel_rfl) (by kernel_rfl) (by kernel_rfl) (fun _ _ _ h => h) (Or.inl ⟨by kernel_rfl, fun w hSw => (by (try dsimp only at hSw); go_simp)⟩) hH ?_
      refine takeH (i := 20) (d := 2) (v := (.string (⟨#[115, 104, 97, 108, 108, 111, 119, 32]⟩ ++ S ++ ⟨#[32]⟩ ++ X0 ++ ⟨#[32]⟩ ++ C))) rfl rfl (by kernel_rfl) (by kernel_rfl) (by kernel_rfl) (fun _ _ _ h => h) (Or.inl ⟨by kernel_rfl, fun w hSw => (by (try dsimp only at hSw); go_simp)⟩) hH ?_
      simp only [List.setIfInBounds_toArray, List.set_cons_succ, List.set_cons_zero]
      refine wpAnyH_done (by kernel_rfl) ?_ _
      have HF := Lib.hid hH.1
      clear hH
      go_wp2_with fail
      go_ret
      exact ⟨by rw [HR.out]; rfl, HB1.out.trans (Below.mono (show Below W1.heap.size W1 _ from HF.out) HB1.out.size)⟩
    · go_simp
      refine (HC.out w2 HP2.out).mono ?_
      rintro e w3 ⟨rfl, hb3⟩
      have HP3 : Hid (PtS W1 w3) := Lib.hid (PtS.below hb3 HP2.out)
      clear hb3
      refine hK.out _ _ (HAll.out _ HP3.out) (fun hHeld3 => ?_)
      clear hK K
      refine stepH (i := 0) (by kernel_rfl) rfl (by kernel_rfl) (fun K hK => ?_)
      obtain ⟨WA, hWA⟩ : ∃ W, (w3.alloc (.cells #[.string ⟨#[104, 97, 110, 100, 108, 101, 32]⟩, .string ⟨#[115, 104, 97, 108, 108, 111, 119, 32]⟩] 9)) = W := ⟨_, rfl⟩
      have HPA : Hid (PtS W1 WA) := Lib.hid (by rw [← hWA]; exact PtS.below ((Below.refl _ _).alloc (Nat.le_refl _) _) HP3.out)
      have HCA : Hid (WA.cell? ⟨w3.heap.size, 1, none⟩ = some (.string ⟨#[115, 104, 97, 108, 108, 111, 119, 32]⟩)) := Lib.hid (by rw [← hWA]; exact HCn.out w3)
      go_simp
      clear hWA
      refine hK.out _ _ (HAll.out _ HPA.out) ?_
      clear hK K
      refine wpAnyH_strong (S' := fun w' => PtS W1 w' ∧ w'.cell? ⟨w3.heap.size, 1, none⟩ = some (.string ⟨#[115, 104, 97, 108, 108, 111, 119, 32]⟩)) (fun w' h => HAll.out _ h.1) _ _ _ _ ?_
      have hH := And.intro HPA.out HCA.out
      refine takeH (i := 3) (d := 205) (v := (.pointer (some ⟨w3.heap.size, 1, none⟩))) rfl rfl (by kernel_rfl) (by kernel_rfl) (by kernel_rfl) (fun _ _ _ h => h) (Or.inl ⟨by kernel_rfl, fun w hSw => (by (try dsimp only at hSw); go_simp)⟩) hH ?_
      refine takeH (i := 4) (d := 206) (v := (.string (⟨#[115, 104, 97, 108, 108, 111, 119, 32]⟩))) rfl rfl (by kernel_rfl) (by kernel_rfl) (by kernel_rfl) (fun _ _ _ h => h) (Or.inl ⟨by kernel_rfl, fun w hSw => (by (try dsimp only at hSw); go_simp)⟩) hH ?_
      refine takeH (i := 7) (d := 209) (v := (.string (⟨#[115, 104, 97, 108, 108, 111, 119, 32]⟩ ++ S))) rfl rfl (by kernel_rfl) (by kernel_rfl) (by kernel_rfl) (fun _ _ _ h => h) (Or.inl ⟨by kernel_rfl, fun w hSw => (by (try dsimp only at hSw); go_simp)⟩) hH ?_
      refine takeH (i := 8) (d := 210) (v := (.string (⟨#[115, 104, 97, 108, 108, 111, 119, 32]⟩ ++ S ++ ⟨#[32]⟩))) rfl rfl (by kernel_rfl) (by kernel_rfl) (by kernel_rfl) (fun _ _ _ h => h) (Or.inl ⟨by kernel_rfl, fun w hSw => (by (try dsimp only at hSw); go_simp)⟩) hH ?_
      refine takeH (i := 14) (d := 216) (v := (.string (⟨#[115, 104, 97, 108, 108, 111, 119, 32]⟩ ++ S ++ ⟨#[32]⟩ ++ X0))) rfl rfl (by kernel_rfl) (by kernel_rfl) (by kernel_rfl) (fun _ _ _ h => h) (Or.inl ⟨by kernel_rfl, fun w hSw => (by (try dsimp only at hSw); go_simp)⟩) hH ?_
      refine takeH (i := 15) (d := 217) (v := (.string (⟨#[115, 104, 97, 108, 108, 111, 119, 32]⟩ ++ S ++ ⟨#[32]⟩ ++ X0 ++ ⟨#[32]⟩))) rfl rfl (by kernel_rfl) (by kernel_rfl) (by kernel_rfl) (fun _ _ _ h => h) (Or.inl ⟨by kernel_rfl, fun w hSw => (by (try dsimp only at hSw); go_simp)⟩) hH ?_
      refine takeH (i := 19) (d := 221) (v := (.string (⟨#[115, 104, 97, 108, 108, 111, 119, 32]⟩ ++ S ++ ⟨#[32]⟩ ++ X0 ++ ⟨#[32]⟩ ++ C))) rfl rfl (by kernel_rfl) (by kernel_rfl) (by kernel_rfl) (fun _ _ _ h => h) (Or.inl ⟨by kernel_rfl, fun w hSw => (by (try dsimp only at hSw); go_simp)⟩) hH ?_
      refine takeH (i := 20) (d := 2) (v := (.string (⟨#[115, 104, 97, 108, 108, 111, 119, 32]⟩ ++ S ++ ⟨#[32]⟩ ++ X0 ++ ⟨#[32]⟩ ++ C))) rfl rfl (by kernel_rfl) (by kernel_rfl) (by kernel_rfl) (fun _ _ _ h => h) (Or.inl ⟨by kernel_rfl, fun w hSw => (by (try dsimp only at hSw); go_simp)⟩) hH ?_
      simp only [List.setIfInBounds_toArray, List.set_cons_succ, List.set_cons_zero]
      refine wpAnyH_done (by kernel_rfl) ?_ _
      have HF := Lib.hid hH.1
      clear hH
      go_wp2_with fail
      go_ret
      exact ⟨by rw [HR.out]; rfl, HB1.out.trans (Below.mono (show Below W1.heap.size W1 _ from HF.out) HB1.out.size)⟩
end Go.Proofs.YtndgoefhhjcllaaGreatDoor
/- The reference's clauses. -/
namespace Go.Proofs.YtndgoefhhjcllaaGreatDoor
open Go.RowKit

set_option maxRecDepth 100000 in
set_option maxHeartbeats 4000000 in
theorem clauses_any (ops : List (Txt × List Txt)) (bs : List Ex) (hA : ∀ x ∈ bs, AtSays x) (hz : ∀ x ∈ bs, (atT 0 x).length ≤ 3000002) (hl : bs.length ≤ 50) (ho : ∀ o ∈ ops, o.1.length ≤ 12 ∧ o.2.length ≤ 4 ∧ ∀ x ∈ o.2, x.length ≤ 12) : ClSays ops bs := by
  intro A c w B hP hlen hB
  obtain ⟨i0, hi, hz0, hz1, hz2⟩ := info_parts infoN
  have HP := Lib.hid hP
  have HA := Lib.hid hA
  have HZ := Lib.hid hz
  have HO' := Lib.hid ho
  have HLen := Lib.hid hlen
  obtain ⟨n, hn⟩ : ∃ n, n = bs.length := ⟨_, rfl⟩
  have HN := Lib.hid hn
  have hn2 : n ≤ 50 := by omega
  obtain ⟨R, hR⟩ : ∃ R, R = strB (clT ops bs) := ⟨_, rfl⟩
  have HR := Lib.hid hR
  rw [← hn, ← hR]
  have HBs := Lib.hid hB
  clear hP hA hz hl hn hR hB hlen ho
  by_cases h0 : n = 0
  · have HR0 : Hid (R = ⟨#[123, 32, 125]⟩) := Lib.hid (by rw [HR.out]; unfold clT; rw [if_pos (by rw [← HN.out]; exact h0)]; rfl)
    subst h0
    go_enter Tryz.func86, Tryz.ntmps86
    go_wp2_with fail
    go_ret
    exact ⟨by rw [HR0.out]; rfl, Below.refl _ _⟩
  have hnb : ((n : Int) == 0) = false := beq_eq_false_iff_ne.2 (by omega)
  have HR0 : Hid (R = strB ([123, 32] ++ Lib.join (List.zipWith arT ops bs) [59, 32] ++ [32, 125])) := Lib.hid (by rw [HR.out]; unfold clT; rw [if_neg (by rw [← HN.out]; exact h0)])
  clear HR h0
  go_enter Tryz.func86, Tryz.ntmps86
  go_wp2_with fail
  go_loopw [3, 4] (fun v i wr => ∃ (kk : Nat) (A' : Option Addr) (c' : Nat), kk ≤ n ∧ i = .int .i64 (kk : Int) ∧ v = .slice A' kk c' ∧ Hid (wr.ownsRow w.heap.size 9 1 (.slice A' kk c') kk (((List.zipWith arT ops bs).take kk).map fun x => Value.string (strB x))) ∧ Hid (Below w.heap.size w wr)) (fun _ i _ => n - (intOf i).toNat)
  case atStart => exact ⟨0, none, 0, Nat.zero_le _, rfl, rfl, Lib.hid (World.ownsRow_nil _ _ _ _), Lib.hid (Below.refl _ _)⟩
  case round =>
    obtain ⟨kk, A', c', hkk, rfl, rfl, hO, hBw⟩ := hrel
    have j0 : (0 : Int) ≤ (kk : Int) := by omega
    by_cases hkl : kk < n
    · have hkl' : kk < bs.length := by rw [← HN.out]; exact hkl
      have hko : kk < ops.length := by rw [HLen.out]; exact hkl'
      have j1 : (kk : Int) < (n : Int) := by omega
      obtain ⟨x, hx⟩ : ∃ x, x = bs[kk] := ⟨_, rfl⟩
      obtain ⟨o, hoo⟩ : ∃ x, x = ops[kk] := ⟨_, rfl⟩
      have hxl : bs[kk]? = some x := by rw [hx]; exact List.getElem?_eq_getElem hkl'
      have hol : ops[kk]? = some o := by rw [hoo]; exact List.getElem?_eq_getElem hko
      obtain ⟨b, off, rfl, hb1, hb2, hcc⟩ := HP.out (List.ne_nil_of_mem (List.mem_of_getElem? hxl))
      obtain ⟨An, cn, k0, n0, s0, t0, B0, q0, r0, B1, q1, r1, B2, q2, r2, hc⟩ := hcc kk o x hol hxl
      have hos := HO'.out o (List.mem_of_getElem? hol)
      obtain ⟨X, hX⟩ : ∃ X, X = strB (atT 0 x) := ⟨_, rfl⟩
      have hXz : X.size ≤ 3000002 := by rw [hX, strB_size]; exact HZ.out x (List.mem_of_getElem? hxl)
      have HAt : Hid (∀ w', PtS w w' → Calls Tryz.prog 83 #[.agg #[.int .i64 k0, .int .i64 n0, .string s0, .string t0, .slice B0 q0 r0, .slice B1 q1 r1, .slice B2 q2 r2], .int .i64 0] w' fun r w2 => r = .returned (.string X) ∧ Below w'.heap.size w' w2) := Lib.hid (fun w' hb => by
        rw [hX]
        exact HA.out x (List.mem_of_getElem? hxl) 0 _ _ _ _ _ _ _ _ _ _ _ _ _ w' ((hc.rep.weaken (Q := fun _ => True) (fun _ _ => trivial)).keep (Same.of_below (show Below w.heap.size w w' from hb))))
      obtain ⟨OP, hOP⟩ : ∃ X, X = strB o.1 := ⟨_, rfl⟩
      obtain ⟨J, hJ⟩ : ∃ X, X = strB (Lib.join (o.1 :: o.2) [32]) := ⟨_, rfl⟩
      have hJl : (Lib.join (o.1 :: o.2) [32]).length ≤ 100 := by
        have h1 := jn_le (o.1 :: o.2) [32] 12 (fun y hy => by
          rcases List.mem_cons.1 hy with rfl | hy
          · exact hos.1
          · exact hos.2.2 y hy)
        have h2 : (o.1 :: o.2).length * (12 + ([32] : Txt).length) ≤ 5 * 13 := Nat.mul_le_mul (by simp only [List.length_cons]; have := hos.2.1; omega) (by decide)
        omega
      have hJz : J.size ≤ 100 := by rw [hJ, strB_size]; exact hJl
      have HJn : Hid (∀ (w' : World) (A3 : Option Addr) (c3 : Nat), NamesAt (fun _ => True) w' A3 (o.1 :: o.2) → Calls Tryz.prog 87 #[.slice A3 (1 + o.2.length) c3, .string ⟨#[32]⟩] w' fun r w2 => r = .returned (.string J) ∧ w' = w2) := Lib.hid (fun w' A3 c3 h => by
        have h1 := rJoined_any (fun _ => True) A3 c3 (o.1 :: o.2) [32] w' h (by simp only [List.length_cons]; have := hos.2.1; unfold maxLen; omega) (by omega) (by decide)
        rw [show (o.1 :: o.2).length = 1 + o.2.length by simp only [List.length_cons]; omega] at h1
        rw [hJ]; exact h1)
      have HNs := Lib.hid (fun w' (h : PtS w w') => hc.names.keep (Same.of_below (show Below w.heap.size w w' from h)))
      have HTk : Hid ((((List.zipWith arT ops bs).take (kk + 1)).map fun x => Value.string (strB x)) = (((List.zipWith arT ops bs).take kk).map fun x => Value.string (strB x)) ++ [.string (J ++ ⟨#[32, 45, 62, 32]⟩ ++ X)]) := Lib.hid (by
        have hz : (List.zipWith arT ops bs)[kk]? = some (arT o x) := by rw [List.getElem?_zipWith, hol, hxl]
        have hzl := (List.getElem?_eq_some_iff.1 hz).1
        rw [take_succ_of hzl, List.map_append]
        rw [List.getElem?_eq_getElem hzl, Option.some.injEq] at hz
        rw [hz, List.map_cons, List.map_nil]
        unfold arT
        rw [strB_cat, strB_cat, ← hJ, ← hX]; rfl)
      have HOs : Hid (o.2.length ≤ 4) := Lib.hid hos.2.1
      obtain ⟨L2, hL2⟩ : ∃ L, L = o.2 := ⟨_, rfl⟩
      have HO1 : Hid (o.1 :: L2 = o.1 :: o.2) := Lib.hid (by rw [hL2])
      have HSt : Hid (OP = strB o.1) := Lib.hid hOP
      obtain ⟨nn, hnn⟩ : ∃ q, q = o.2.length := ⟨_, rfl⟩
      have HNn := Lib.hid hnn
      have d0 := hc.d0
      have d1 := hc.d1
      rw [← hOP] at d0
      rw [← hnn] at d1 HJn HOs
      have d2 := hc.d2
      have d3 := hc.d3
      have d4 := hc.d4
      have d5 := hc.d5
      have d6 := hc.d6
      have d7 := hc.d7
      have d8 := hc.d8
      have hs0 : PtS w wr := hBw.out
      have HAll : Hid (∀ w', PtS w w' → w'.cell? ⟨b, off + kk * 9, none⟩ = some (.string OP) ∧ w'.cell? ⟨b, off + kk * 9 + 1, none⟩ = some (.slice An nn cn) ∧ w'.cell? ⟨b, off + kk * 9 + 2, none⟩ = some (.int .i64 k0) ∧ w'.cell? ⟨b, off + kk * 9 + 3, none⟩ = some (.int .i64 n0) ∧ w'.cell? ⟨b, off + kk * 9 + 4, none⟩ = some (.string s0) ∧ w'.cell? ⟨b, off + kk * 9 + 5, none⟩ = some (.string t0) ∧ w'.cell? ⟨b, off + kk * 9 + 6, none⟩ = some (.slice B0 q0 r0) ∧ w'.cell? ⟨b, off + kk * 9 + 7, none⟩ = some (.slice B1 q1 r1) ∧ w'.cell? ⟨b, off + kk * 9 + 8, none⟩ = some (.slice B2 q2 r2) ∧ PtS w w') :=
        Lib.hid (fun w' h => ⟨PtS.keep h hb2 d0, PtS.keep h hb2 d1, PtS.keep h hb2 d2, PtS.keep h hb2 d3, PtS.keep h hb2 d4, PtS.keep h hb2 d5, PtS.keep h hb2 d6, PtS.keep h hb2 d7, PtS.keep h hb2 d8, h⟩)
      obtain ⟨W6, hW6⟩ : ∃ W, (wr.alloc (.cells #[.string OP] 9)).drew = W := ⟨_, rfl⟩
      have HB6 : Hid (Below wr.heap.size wr W6) := Lib.hid (by rw [← hW6]; exact ((Below.refl _ _).alloc (Nat.le_refl _) _).drew)
      have HS6 : Hid (PtS w W6) := Lib.hid (PtS.below HB6.out hs0)
      have HBr : Hid (Below w.heap.size w wr) := hBw
      have HO6 : Hid (W6.ownsRow wr.heap.size 9 1 (.slice (some ⟨wr.heap.size, 0, none⟩) 1 1) 1 [.string OP]) := Lib.hid (by
        rw [← hW6]
        exact ⟨rfl, .inr ⟨wr.heap.size, 1, #[.string OP], rfl, Nat.le_refl _, heap_alloc_new wr _, Nat.le_refl _, by unfold maxLen; omega, rfl, rfl⟩⟩)
      have HOr6 := Lib.hid (hO.out.kept (grown_below HB6.out none) (by cases (Value.slice A' kk c').ownBlock <;> simp))
      have HNe : Hid ((Value.slice A' kk c').ownBlock = none ∨ (Value.slice A' kk c').ownBlock ≠ some wr.heap.size) := Lib.hid (by
        cases hq : (Value.slice A' kk c').ownBlock with
        | none => exact .inl rfl
        | some j => exact .inr (fun e => by have h1 := (hO.out.lt j hq).2; have h2 : j = wr.heap.size := Option.some.inj e; omega))
      have hzz1 : ¬ 9223372036854775807 < J.size + 4 := by omega
      have hzz2 : ¬ 9223372036854775807 < J.size + 4 + X.size := by omega
      clear hx hoo hxl hol hcc hc hos hX hOP hJ hJl hL2 hnn d0 d1 d2 d3 d4 d5 d6 d7 d8
      go_wp2_with fail
      refine wp_region_held_drew (S := fun w' => w'.cell? ⟨b, off + kk * 9, none⟩ = some (.string OP) ∧ w'.cell? ⟨b, off + kk * 9 + 1, none⟩ = some (.slice An nn cn) ∧ w'.cell? ⟨b, off + kk * 9 + 2, none⟩ = some (.int .i64 k0) ∧ w'.cell? ⟨b, off + kk * 9 + 3, none⟩ = some (.int .i64 n0) ∧ w'.cell? ⟨b, off + kk * 9 + 4, none⟩ = some (.string s0) ∧ w'.cell? ⟨b, off + kk * 9 + 5, none⟩ = some (.string t0) ∧ w'.cell? ⟨b, off + kk * 9 + 6, none⟩ = some (.slice B0 q0 r0) ∧ w'.cell? ⟨b, off + kk * 9 + 7, none⟩ = some (.slice B1 q1 r1) ∧ w'.cell? ⟨b, off + kk * 9 + 8, none⟩ = some (.slice B2 q2 r2) ∧ PtS w w') (by kernel_rfl) (HAll.out _ (PtS.drew hs0)) (fun hHeld => ?_)
      refine takeH (i := 0) (d := 14) (v := (.slice A' kk c')) rfl rfl (by kernel_rfl) (by kernel_rfl) (by kernel_rfl) (fun _ _ _ h => h) (Or.inl ⟨by kernel_rfl, fun w hSw => (by (try dsimp only at hSw); go_simp)⟩) hHeld ?_
      refine takeH (i := 1) (d := 15) (v := (.slice (some ⟨b, off, none⟩) n c)) rfl rfl (by kernel_rfl) (by kernel_rfl) (by kernel_rfl) (fun _ _ _ h => h) (Or.inl ⟨by kernel_rfl, fun w hSw => (by (try dsimp only at hSw); go_simp)⟩) hHeld ?_
      refine takeH (i := 2) (d := 16) (v := (.int .i64 (kk : Int))) rfl rfl (by kernel_rfl) (by kernel_rfl) (by kernel_rfl) (fun _ _ _ h => h) (Or.inl ⟨by kernel_rfl, fun w hSw => (by (try dsimp only at hSw); go_simp)⟩) hHeld ?_
      refine takeH (i := 3) (d := 17) (v := (.pointer (some ⟨b, off + kk * 9, none⟩))) rfl rfl (by kernel_rfl) (by kernel_rfl) (by kernel_rfl) (fun _ _ _ h => h) (Or.inl ⟨by kernel_rfl, fun w hSw => (by (try dsimp only at hSw); go_simp)⟩) hHeld ?_
      refine takeH (i := 4) (d := 18) (v := (.pointer (some ⟨b, off + kk * 9, none⟩))) rfl rfl (by kernel_rfl) (by kernel_rfl) (by kernel_rfl) (fun _ _ _ h => h) (Or.inl ⟨by kernel_rfl, fun w hSw => (by (try dsimp only at hSw); go_simp)⟩) hHeld ?_
      refine takeH (i := 5) (d := 19) (v := (.string OP)) rfl rfl (by kernel_rfl) (by kernel_rfl) (by kernel_rfl) (fun _ _ _ h => h) (Or.inl ⟨by kernel_rfl, fun w hSw => (by (try dsimp only at hSw); go_simp)⟩) hHeld ?_
      refine takeH (i := 7) (d := 21) (v := (.slice (some ⟨b, off, none⟩) n c)) rfl rfl (by kernel_rfl) (by kernel_rfl) (by kernel_rfl) (fun _ _ _ h => h) (Or.inl ⟨by kernel_rfl, fun w hSw => (by (try dsimp only at hSw); go_simp)⟩) hHeld ?_
      refine takeH (i := 8) (d := 22) (v := (.int .i64 (kk : Int))) rfl rfl (by kernel_rfl) (by kernel_rfl) (by kernel_rfl) (fun _ _ _ h => h) (Or.inl ⟨by kernel_rfl, fun w hSw => (by (try dsimp only at hSw); go_simp)⟩) hHeld ?_
      refine takeH (i := 9) (d := 23) (v := (.pointer (some ⟨b, off + kk * 9, none⟩))) rfl rfl (by kernel_rfl) (by kernel_rfl) (by kernel_rfl) (fun _ _ _ h => h) (Or.inl ⟨by kernel_rfl, fun w hSw => (by (try dsimp only at hSw); go_simp)⟩) hHeld ?_
      refine takeH (i := 10) (d := 24) (v := (.pointer (some ⟨b, off + kk * 9 + 1, none⟩))) rfl rfl (by kernel_rfl) (by kernel_rfl) (by kernel_rfl) (fun _ _ _ h => h) (Or.inl ⟨by kernel_rfl, fun w hSw => (by (try dsimp only at hSw); go_simp)⟩) hHeld ?_
      refine takeH (i := 11) (d := 25) (v := (.slice An nn cn)) rfl rfl (by kernel_rfl) (by kernel_rfl) (by kernel_rfl) (fun _ _ _ h => h) (Or.inl ⟨by kernel_rfl, fun w hSw => (by (try dsimp only at hSw); go_simp)⟩) hHeld ?_
      refine takeH (i := 15) (d := 29) (v := (.slice (some ⟨b, off, none⟩) n c)) rfl rfl (by kernel_rfl) (by kernel_rfl) (by kernel_rfl) (fun _ _ _ h => h) (Or.inl ⟨by kernel_rfl, fun w hSw => (by (try dsimp only at hSw); go_simp)⟩) hHeld ?_
      refine takeH (i := 16) (d := 30) (v := (.int .i64 (kk : Int))) rfl rfl (by kernel_rfl) (by kernel_rfl) (by kernel_rfl) (fun _ _ _ h => h) (Or.inl ⟨by kernel_rfl, fun w hSw => (by (try dsimp only at hSw); go_simp)⟩) hHeld ?_
      refine takeH (i := 17) (d := 31) (v := (.pointer (some ⟨b, off + kk * 9, none⟩))) rfl rfl (by kernel_rfl) (by kernel_rfl) (by kernel_rfl) (fun _ _ _ h => h) (Or.inl ⟨by kernel_rfl, fun w hSw => (by (try dsimp only at hSw); go_simp)⟩) hHeld ?_
      refine takeH (i := 18) (d := 32) (v := (.pointer (some ⟨b, off + kk * 9 + 2, none⟩))) rfl rfl (by kernel_rfl) (by kernel_rfl) (by kernel_rfl) (fun _ _ _ h => h) (Or.inl ⟨by kernel_rfl, fun w hSw => (by (try dsimp only at hSw); go_simp)⟩) hHeld ?_
      refine takeH (i := 19) (d := 33) (v := (.agg #[.int .i64 k0, .int .i64 n0, .string s0, .string t0, .slice B0 q0 r0, .slice B1 q1 r1, .slice B2 q2 r2])) rfl rfl (by kernel_rfl) (by kernel_rfl) (by kernel_rfl) (fun _ _ _ h => h) (Or.inl ⟨by kernel_rfl, fun w hSw => (by (try dsimp only at hSw); go_simp)⟩) hHeld ?_
      simp only [List.setIfInBounds_toArray, List.set_cons_succ, List.set_cons_zero]
      refine stepH (i := 6) (by kernel_rfl) rfl (by kernel_rfl) (fun K hK => ?_)
      go_simp
      clear hW6
      refine hK.out _ _ (HAll.out _ HS6.out) ?_
      clear hK K hHeld
      refine stepH (i := 12) (by kernel_rfl) rfl (by kernel_rfl) (fun K hK => ?_)
      refine wp_append_names _ _ rfl (fun b => b < B) wr.heap.size wr.heap.size OP An cn nn o.2 HNn.out rfl HO6.out rfl (HNs.out W6 HS6.out) (by have := HOs.out; rw [← HNn.out]; omega) (HB6.out.size) (fun A3 c3 w7 hown7 hg7 => ?_)
      have HW7 : Hid (Below w.heap.size w w7) := Lib.hid (Below.grown (show Below w.heap.size w W6 from HS6.out) hg7 (Below.size HS6.out) (fun k e => by have e' : wr.heap.size = k := Option.some.inj e; rw [← e']; exact HBr.out.size))
      have HS7 : Hid (PtS w w7) := Lib.hid HW7.out
      have HN7 : Hid (NamesAt (fun _ => True) w7 A3 (o.1 :: o.2)) := Lib.hid (own_names (n := 1 + nn) (by simp only [List.length_cons]; have := HNn.out; omega) (by rw [List.map_cons, ← HSt.out]; exact hown7))
      have HOr7 := Lib.hid (HOr6.out.kept hg7 HNe.out)
      clear hown7 hg7
      refine hK.out _ _ (HAll.out _ HS7.out) ?_
      clear hK K
      simp only [Act.put, List.setIfInBounds_toArray]
      refine stepH (i := 13) (by kernel_rfl) rfl (by kernel_rfl) (fun K hK => ?_)
      go_simp
      refine (HJn.out w7 A3 c3 HN7.out).mono ?_
      rintro e w7' ⟨rfl, rfl⟩
      refine hK.out _ _ (HAll.out _ HS7.out) ?_
      clear hK K
      have hH7 := HAll.out w7 HS7.out
      refine takeH (i := 14) (d := 28) (v := (.string (J ++ ⟨#[32, 45, 62, 32]⟩))) rfl rfl (by kernel_rfl) (by kernel_rfl) (by kernel_rfl) (fun _ _ _ h => h) (Or.inl ⟨by kernel_rfl, fun w hSw => (by (try dsimp only at hSw); go_simp)⟩) hH7 ?_
      simp only [List.setIfInBounds_toArray, List.set_cons_succ, List.set_cons_zero]
      clear hH7
      refine stepH (i := 20) (by kernel_rfl) rfl (by kernel_rfl) (fun K hK => ?_)
      go_simp
      refine (HAt.out w7 HS7.out).mono ?_
      rintro e w8 ⟨rfl, hb8⟩
      have HW8 : Hid (Below w.heap.size w w8) := Lib.hid (HW7.out.trans (hb8.mono HW7.out.size))
      have HS8 : Hid (PtS w w8) := Lib.hid HW8.out
      have HOr8 := Lib.hid (HOr7.out.kept (grown_below hb8 none) (by cases (Value.slice A' kk c').ownBlock <;> simp))
      clear hb8
      refine hK.out _ _ (HAll.out _ HS8.out) ?_
      clear hK K
      have hH8 := HAll.out w8 HS8.out
      refine takeH (i := 21) (d := 35) (v := (.string (J ++ ⟨#[32, 45, 62, 32]⟩ ++ X))) rfl rfl (by kernel_rfl) (by kernel_rfl) (by kernel_rfl) (fun _ _ _ h => h) (Or.inl ⟨by kernel_rfl, fun w hSw => (by (try dsimp only at hSw); go_simp)⟩) hH8 ?_
      simp only [List.setIfInBounds_toArray, List.set_cons_succ, List.set_cons_zero]
      clear hH8
      refine stepH (i := 22) (by kernel_rfl) rfl (by kernel_rfl) (fun K hK => ?_)
      go_simp
      refine hK.out _ _ (HAll.out _ (PtS.below ((Below.refl _ _).alloc (Nat.le_refl _) _) HS8.out)) ?_
      clear hK K
      refine stepH (i := 23) (by kernel_rfl) rfl (by kernel_rfl) (fun K hK => ?_)
      refine wp_append_own _ _ _ 23 rfl w.heap.size 9 i0 (.string ⟨#[]⟩) 1 16 Tryz.underlying23 hi hz0 hz1 hz2 rfl (by decide) _ _ _ rfl (HOr8.out.alloc _) ⟨w8.heap.size, 0, none⟩ 1 1 [.string (J ++ ⟨#[32, 45, 62, 32]⟩ ++ X)] rfl rfl (cell_one_new _ _ _) (by simp [Value.oneCell']) (by unfold maxLen; omega) (by omega) (by have := HW8.out.size; simp; omega) (fun v' w10 hown10 hg10 _ => ?_)
      obtain ⟨A5, c5, rfl⟩ := own_slice hown10
      have HO10 := Lib.hid hown10
      have HW10 : Hid (Below w.heap.size w w10) := Lib.hid ((HW8.out.alloc HW8.out.size _).grown hg10 (by have := HW8.out.size; simp; omega) (fun j e => by have := (HOr8.out.lt _ e).1; omega))
      clear hown10 hg10
      refine hK.out _ _ (HAll.out _ (show PtS w w10 from HW10.out)) ?_
      clear hK K
      simp only [Act.put, List.setIfInBounds_toArray]
      have hH10 := HAll.out w10 (show PtS w w10 from HW10.out)
      refine takeH (i := 24) (d := 3) (v := (.slice A5 (kk + 1) c5)) rfl rfl (by kernel_rfl) (by kernel_rfl) (by kernel_rfl) (fun _ _ _ h => h) (Or.inl ⟨by kernel_rfl, fun w hSw => (by (try dsimp only at hSw); go_simp)⟩) hH10 ?_
      simp only [List.setIfInBounds_toArray, List.set_cons_succ, List.set_cons_zero]
      clear hH10 HAll
      refine wpAnyH_done (by kernel_rfl) ?_ _
      go_wp2_with fail
      go_roundw
      case rel => exact ⟨kk + 1, A5, c5, by omega, by go_num, rfl, Lib.hid (by rw [HTk.out]; exact HO10.out), HW10⟩
      case measure => simp [intOf]; omega
    · obtain rfl : kk = n := by omega
      have HZl : Hid ((List.zipWith arT ops bs).length = kk) := Lib.hid (by rw [List.length_zipWith, HLen.out, ← HN.out, Nat.min_self])
      have HNm : Hid (NamesAt (fun _ => True) wr A' (List.zipWith arT ops bs)) := Lib.hid (by
        have h := hO.out
        rw [List.take_of_length_le (by rw [HZl.out]; exact Nat.le_refl _)] at h
        exact own_names HZl.out.symm h)
      obtain ⟨J, hJ⟩ : ∃ J, J = strB (Lib.join (List.zipWith arT ops bs) [59, 32]) := ⟨_, rfl⟩
      have hJl : (Lib.join (List.zipWith arT ops bs) [59, 32]).length ≤ 200000000 := by
        have h1 := jn_le (List.zipWith arT ops bs) [59, 32] 3000200 (fun y hy => by
          obtain ⟨i, hi, rfl⟩ := List.getElem_of_mem hy
          rw [List.getElem_zipWith]
          rw [List.length_zipWith] at hi
          have hb := HZ.out bs[i] (List.getElem_mem (by omega))
          have ho := HO'.out ops[i] (List.getElem_mem (by omega))
          have h2 := jn_le (ops[i].1 :: ops[i].2) [32] 12 (fun y hy => by
            rcases List.mem_cons.1 hy with rfl | hy
            · exact ho.1
            · exact ho.2.2 y hy)
          have h3 : (ops[i].1 :: ops[i].2).length * (12 + ([32] : Txt).length) ≤ 5 * 13 := Nat.mul_le_mul (by simp only [List.length_cons]; have := ho.2.1; omega) (by decide)
          unfold arT
          rw [List.length_append, List.length_append]
          simp only [List.length_cons, List.length_nil]
          omega)
        rw [HZl.out] at h1
        have h2 : kk * (3000200 + ([59, 32] : Txt).length) ≤ 50 * 3000202 := Nat.mul_le_mul hn2 (by decide)
        omega
      have hJz : J.size ≤ 200000000 := by rw [hJ, strB_size]; exact hJl
      have HJ : Hid (Calls Tryz.prog 87 #[.slice A' kk c', .string ⟨#[59, 32]⟩] wr fun r w2 => r = .returned (.string J) ∧ wr = w2) := Lib.hid (by
        have h1 := rJoined_any (fun _ => True) A' c' (List.zipWith arT ops bs) [59, 32] wr HNm.out (by rw [HZl.out]; unfold maxLen; omega) (by omega) (by decide)
        rw [HZl.out] at h1
        rw [hJ]; exact h1)
      have HRr : Hid (R = ⟨#[123, 32]⟩ ++ J ++ ⟨#[32, 125]⟩) := Lib.hid (by
        rw [HR0.out, hJ, strB_cat, strB_cat]; rfl)
      have hzz1 : ¬ 9223372036854775807 < 2 + J.size := by omega
      have hzz2 : ¬ 9223372036854775807 < 2 + J.size + 2 := by omega
      clear hJ hJl
      go_wp2_with fail
      refine HJ.out.mono ?_
      rintro r w2 ⟨rfl, rfl⟩
      go_wp2_with fail
      go_ret
      exact ⟨by rw [HRr.out]; rfl, hBw.out⟩
end Go.Proofs.YtndgoefhhjcllaaGreatDoor
