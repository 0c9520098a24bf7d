/- Texts put together by program: PgD PgCT PgCC PgCD PgCE PgCO. -/
import Derived.Test.YtbmicnajedeenaaGreatDoorMgH
import Derived.Test.YtbmicnajedeenaaGreatDoorMgC
/- The program's check of a type in a declaration. -/
namespace Go.Proofs.YtbmicnajedeenaaGreatDoor
open Go.RowKit Go.Shelf

attribute [local go_sem] Oper.semAt_some

/-- some label is one of a scope -/
def scP (L : List (Txt × Int)) : Bool := L.any fun x => x.2 != 0
set_option maxRecDepth 100000 in
set_option maxHeartbeats 1000000 in
theorem labClos_any (S : ByteArray) (m : Int) (w : World) : Calls Tryz.prog 158 #[.agg #[.string S, .int .i64 m]] w fun e w' => e = .returned (.bool (m != 0)) ∧ Below w.heap.size w w' := by
  have hb0 := Lib.hid ((Below.refl w.heap.size w).alloc (Nat.le_refl _) (.cells #[.string S, .int .i64 m] 140))
  obtain ⟨q, hq⟩ : ∃ q, q = (m != 0) := ⟨_, rfl⟩
  rw [← hq]
  have hq2 := hq.symm
  clear hq
  cases q
  all_goals
    go_enter Tryz.func158, Tryz.ntmps158
    go_wp2_with fail
    go_ret
    exact ⟨rfl, hb0.out⟩
set_option maxRecDepth 100000 in
set_option maxHeartbeats 1000000 in
theorem indexLab_any (A : Option Addr) (c : Nat) (L : List (Txt × Int)) (w : World) (h : LabsAt (fun _ => True) w A L) (hl : L.length ≤ maxLen) :
    Calls Tryz.prog 174 #[.slice A L.length c, .func (.func 158) #[] #[]] w fun e w' => (∃ r : Int, e = .returned (.int .i64 r) ∧ -1 ≤ r ∧ Hid (decide (0 ≤ r) = scP L)) ∧ Below w.heap.size w w' := by
  have HN := Lib.hid h
  obtain ⟨n, hn⟩ : ∃ n, n = L.length := ⟨_, rfl⟩
  have HL := Lib.hid hn
  unfold maxLen at hl
  rw [← hn] at hl ⊢
  clear h hn
  go_enter Tryz.func174, Tryz.ntmps174
  go_wp2_with fail
  go_loopw [8] (fun i wr => ∃ k : Nat, k ≤ n ∧ i = .int .i64 (k : Int) ∧ Hid (Below w.heap.size w wr) ∧ Hid (scP (L.take k) = false)) (fun i _ => n - (intOf i).toNat)
  case atStart => exact ⟨0, Nat.zero_le _, rfl, Lib.hid (Below.refl _ _), Lib.hid (by simp [scP])⟩
  case round =>
    obtain ⟨k, hk, rfl, hB, hno⟩ := hrel
    have i0 : (0 : Int) ≤ (k : Int) := by omega
    by_cases hkl : k < n
    · have hkl' : k < L.length := by rw [← HL.out]; exact hkl
      have hA := (HN.out.keep (Same.of_below hB.out)) (List.ne_nil_of_length_pos (by omega))
      obtain ⟨b, off, rfl, _, hlt, hc⟩ := hA
      obtain ⟨c0, c1⟩ := hc k _ (List.getElem?_eq_getElem hkl')
      obtain ⟨Y, hY⟩ : ∃ Y, Y = strB L[k].1 := ⟨_, rfl⟩
      obtain ⟨m, hm⟩ : ∃ m, m = L[k].2 := ⟨_, rfl⟩
      rw [← hY] at c0
      rw [← hm] at c1
      have HC := Lib.hid (fun w => labClos_any Y m w)
      obtain ⟨q, hq⟩ : ∃ q, q = (m != 0) := ⟨_, rfl⟩
      rw [← hq] at HC
      have i1 : (k : Int) < (n : Int) := by omega
      have HT : Hid (scP (L.take (k + 1)) = q) := Lib.hid (by
        have hno' := hno.out
        unfold scP at hno' ⊢
        rw [List.take_add_one, List.getElem?_eq_getElem hkl', List.any_append, hno', hq, hm]; simp)
      cases q
      · clear hc hlt hY hm hq
        go_wp2_with fail
        refine (HC.out _).mono ?_
        rintro e w2 ⟨rfl, hb⟩
        have HB2 := Lib.hid (hB.out.trans (hb.mono hB.out.size))
        clear hb HC c0 c1
        go_wp2_with fail
        go_roundw
        case rel => exact ⟨k + 1, by omega, by go_num, HB2, HT⟩
        case measure => simp [intOf]; omega
      · have HQ : Hid (scP L = true) := Lib.hid (by
          have h1 := HT.out
          unfold scP at h1 ⊢
          rw [← List.take_append_drop (k + 1) L, List.any_append, h1, Bool.true_or])
        clear hc hlt hY hm hq
        go_wp2_with fail
        refine (HC.out _).mono ?_
        rintro e w2 ⟨rfl, hb⟩
        have HB2 := Lib.hid (hB.out.trans (hb.mono hB.out.size))
        clear hb HC c0 c1
        go_wp2_with fail
        go_ret
        exact ⟨⟨k, rfl, by omega, Lib.hid (by rw [decide_eq_true i0]; exact HQ.out.symm)⟩, HB2.out⟩
    · obtain rfl : k = n := by omega
      have HQ : Hid (scP L = false) := Lib.hid (by have := hno.out; rwa [HL.out, List.take_length] at this)
      go_wp2_with fail
      go_ret
      exact ⟨⟨-1, rfl, by omega, Lib.hid (by rw [decide_eq_false (by omega)]; exact HQ.out.symm)⟩, hB.out⟩
set_option maxRecDepth 100000 in
set_option maxHeartbeats 1000000 in
theorem containsLab_any (A : Option Addr) (c : Nat) (L : List (Txt × Int)) (w : World) (h : LabsAt (fun _ => True) w A L) (hl : L.length ≤ maxLen) :
    Calls Tryz.prog 157 #[.slice A L.length c, .func (.func 158) #[] #[]] w fun e w' => e = .returned (.bool (scP L)) ∧ Below w.heap.size w w' := by
  have HI := Lib.hid (indexLab_any A c L w h hl)
  clear h hl
  go_enter Tryz.func157, Tryz.ntmps157
  go_wp2_with fail
  refine HI.out.mono ?_
  rintro e w' ⟨⟨r, rfl, h1, h2⟩, hb⟩
  have HR := h2
  have HB := Lib.hid hb
  clear h2 hb
  go_wp2_with fail
  go_ret
  exact ⟨by rw [← HR.out]; rfl, HB.out⟩
/-- the error of a type's node in a declaration -/
def clP (e : Ty) : Int := if e.k = 0 ∨ (e.k = 5 ∧ e.tl ≠ -1) ∨ scP e.ls = true then 1 else 0
/-- the error of a type in a declaration -/
def dcP (e : Ty) : Int := if pkT e = 0 then firstT clP (nodesT 1 e) else pkT e
def ChkSaysCl (chk : Ty → Int) : Prop := ∀ (P : Nat → Prop) (x : Ty) (k n : Int) (s : ByteArray) (t : Int) (A0 : Option Addr) (n0 c0 : Nat) (A1 : Option Addr) (n1 c1 : Nat) (w : World), UsesT w → RepT P w x [.int .i64 k, .int .i64 n, .string s, .slice A0 n0 c0, .slice A1 n1 c1, .int .i64 t] →
  Calls Tryz.prog 134 #[.agg #[.int .i64 k, .int .i64 n, .string s, .slice A0 n0 c0, .slice A1 n1 c1, .int .i64 t]] w fun e w' => e = .returned (.int .i64 (chk x)) ∧ Below w.heap.size w w'
set_option maxRecDepth 100000 in
set_option maxHeartbeats 4000000 in
theorem clP_says : ChkSaysCl clP := by
  intro P x k n s t A0 n0 c0 A1 n1 c1 w _ hre
  have hl := hre.labs
  cases x with
  | mk xk xn xs xl xls xtl =>
  obtain ⟨Al, cl, Ar, cr, e, hf, hn, _⟩ := hre
  simp only [tyCells, List.cons.injEq, Value.int.injEq, Value.string.injEq, Value.slice.injEq, and_true, true_and] at e
  obtain ⟨rfl, rfl, rfl, ⟨rfl, rfl, rfl⟩, ⟨rfl, rfl, rfl⟩, rfl⟩ := e
  have HC := Lib.hid (fun w' (hb : Below w.heap.size w w') => containsLab_any A1 c1 xls w' ((hn.weaken (fun _ _ => trivial)).keep (Same.of_below hb)) hl.2)
  obtain ⟨Q, hQ⟩ : ∃ Q, Q = scP xls := ⟨_, rfl⟩
  obtain ⟨N, hN⟩ : ∃ Q, Q = xls.length := ⟨_, rfl⟩
  obtain ⟨S, hS⟩ : ∃ Q, Q = strB xs := ⟨_, rfl⟩
  obtain ⟨M, hM⟩ : ∃ Q, Q = xl.length := ⟨_, rfl⟩
  obtain ⟨R, hR⟩ : ∃ Q, Q = clP (.mk k n xs xl xls t) := ⟨_, rfl⟩
  have HR : Hid (R = if k = 0 ∨ (k = 5 ∧ t ≠ -1) ∨ Q = true then 1 else 0) := Lib.hid (by rw [hR, hQ]; rfl)
  rw [← hQ, ← hN] at HC
  rw [← hN, ← hR, ← hM, ← hS]
  have hmf : ∀ (fn : Fn) (first cap : Array Value) (w : World), (Instr.makeFunc fn first cap).run Tryz.prog w = .ok (.func fn first cap) w := fun _ _ _ _ => rfl
  obtain ⟨W1, hW1⟩ : ∃ W1, w.alloc (.cells #[.int .i64 k, .int .i64 n, .string S, .slice A0 M c0, .slice A1 N c1, .int .i64 t] 63) = W1 := ⟨_, rfl⟩
  have HB1 : Hid (Below w.heap.size w W1) := Lib.hid (by rw [← hW1]; exact (Below.refl _ _).alloc (Nat.le_refl _) _)
  have HE1 : Hid (TyBx W1 w.heap.size (.int .i64 k) (.int .i64 n) (.string S) (.slice A0 M c0) (.slice A1 N c1) (.int .i64 t)) := Lib.hid (by rw [← hW1]; exact TyBx.new w _ _ _ _ _ _)
  have a0 := HE1.out.c0
  have a4 := HE1.out.c4
  have a5 := HE1.out.c5
  clear hQ hN hR hM hS hl hf hn
  have key : ∀ (g0 g5 gt : Bool), (k == 0) = g0 → (k == 5) = g5 → (t != -1) = gt → Calls Tryz.prog 134 #[.agg #[.int .i64 k, .int .i64 n, .string S, .slice A0 M c0, .slice A1 N c1, .int .i64 t]] w fun e w' => e = .returned (.int .i64 (if g0 || (g5 && gt) || Q then 1 else 0)) ∧ Below w.heap.size w w' := by
    intro g0 g5 gt h0 h5 ht
    cases g0 <;> cases g5 <;> cases gt <;> cases Q
    all_goals
      go_enter Tryz.func134, Tryz.ntmps134
      go_wp2_with fail
      clear hW1
      refine (HC.out _ HB1.out).mono ?_
      rintro e w2 ⟨rfl, hb⟩
      have HB2 := Lib.hid (HB1.out.trans (hb.mono HB1.out.size))
      have HE2 := Lib.hid (HE1.out.kept (grown_below hb none) (by simp))
      clear hb a0 a4 a5
      have a0 := HE2.out.c0
      have a4 := HE2.out.c4
      have a5 := HE2.out.c5
      go_wp2_with fail
      go_ret
      exact ⟨rfl, HB2.out⟩
  have := key _ _ _ rfl rfl rfl
  rw [HR.out]
  refine this.mono ?_
  rintro e w' ⟨rfl, hb⟩
  refine ⟨?_, hb⟩
  congr 3
  by_cases h0 : k = 0 <;> by_cases h5 : k = 5 <;> by_cases ht : t = -1 <;> cases Q <;> simp [h0, h5, ht]
set_option maxRecDepth 100000 in
set_option maxHeartbeats 4000000 in
theorem firstErrorCl_any (chk : Ty → Int) (HCk : Hid (ChkSaysCl chk)) (b1 b2 : Nat) (e : Ty) (cs : List Value) (w : World) (hb1 : CellsAt w b1 0 cs) (hb2 : w.cell? ⟨b2, 0, none⟩ = some (.func (.func 133) #[] #[])) (hl : b1 < w.heap.size ∧ b2 < w.heap.size)
    (hre : RepT (fun b => b < w.heap.size) w e cs) (hh : hT e ≤ 900000) (hu : UsesT w) :
    Calls Tryz.prog 93 #[.func (.func 154) #[] #[.pointer (some ⟨b1, 0, none⟩), .pointer (some ⟨b2, 0, none⟩)], .func (.func 134) #[] #[]] w fun r w' =>
      r = .returned (.int .i64 (firstT chk (nodesT 1 e))) ∧ Below w.heap.size w w' := by
  obtain ⟨W1, hW1⟩ : ∃ W1, (w.alloc (.cells #[.func (.func 134) #[] #[]] 166)).alloc (.cells #[.int .i64 0] 35) = W1 := ⟨_, rfl⟩
  have hg1 : ∀ row, w.grownBy W1 row := fun row => by rw [← hW1]; exact grown_trans (World.grownBy_alloc _ _ _) (World.grownBy_alloc _ _ _)
  have hz1 : W1.heap.size = w.heap.size + 2 := by rw [← hW1]; simp
  have hc1 : KC (fun _ => True) w W1 := KC.of_grown (hg1 none) (fun _ _ => by simp)
  have hB1 : Below w.heap.size w W1 := by rw [← hW1]; exact ((Below.refl _ _).alloc (Nat.le_refl _) _).alloc (by simp) _
  have HS1 : Hid (B1 W1 w.heap.size 166 (.func (.func 134) #[] #[])) := by rw [← hW1]; exact (B1.new w _ _).kept (World.grownBy_alloc _ _ none) (by simp)
  have HS2 : Hid (B1 W1 (w.heap.size + 1) 35 (.int .i64 0)) := by
    rw [← hW1]
    have := B1.new (w.alloc (.cells #[.func (.func 134) #[] #[]] 166)) 35 (.int .i64 0)
    rwa [World.size_alloc] at this
  have hseq := nodesT_seq b1 b2 (fun b => b ≠ w.heap.size + 1) W1 e cs W1 (hb1.keepC (P := fun _ => True) trivial hc1) ((hc1.2 _ _ _ trivial hb2).1) (by omega) (by omega) (fun b hb => by omega) ((hre.keepC (KC.of_grown (hg1 none) (fun _ _ => by simp))).weaken (fun b hb => by omega)) (KC.refl _ _) hh
  have HSeq := Lib.hid hseq
  have HUse := Lib.hid hu
  clear hu hseq hb1 hb2 hre hh hc1
  refine callsIn_wide (n := 20) |>.1 ?_
  refine callsIn_of_wp_marks Tryz.func93 rfl trivial ?_ rfl
  simp only [Tryz.ntmps93, List.size_toArray, List.length_cons, List.length_nil, Nat.reduceAdd, Nat.reduceSub, Array.replicate_succ, Array.replicate_zero, List.push_toArray, List.append_toArray, List.nil_append, List.cons_append]
  gi_wp2
  clear hW1
  refine range_x (n := 20) (by omega) (gf := 154) (lb := #[.pointer (some ⟨b1, 0, none⟩), .pointer (some ⟨b2, 0, none⟩)]) rfl (enters_of Tryz.func154 (by kernel_rfl) rfl) HSeq.out (fun _ => rfl)
    (fun ps W' => B1 W' (w.heap.size + 1) 35 (.int .i64 0) ∧ KC (fun b => b ≠ w.heap.size + 1) W1 W' ∧ Below w.heap.size w W' ∧ ∀ rest, firstT chk (ps.map fxT ++ rest) = firstT chk rest)
    (fun c ps W' => c = .ret ∧ ∃ v : Int, B1 W' (w.heap.size + 1) 35 (.int .i64 v) ∧ Below w.heap.size w W' ∧ ∀ rest, firstT chk (ps.map fxT ++ rest) = v)
    ?hI ?hIx ?h0 (fun x a' W' => ∃ Bx, W1.heap.size ≤ Bx ∧ CellsAt W' Bx 0 x.2.cs ∧ a' = { tmps := #[.func (.func 154) #[] #[.pointer (some ⟨b1, 0, none⟩), .pointer (some ⟨b2, 0, none⟩)], .func (.func 134) #[] #[], undef, .pointer (some ⟨w.heap.size, 0, none⟩), .pointer (some ⟨w.heap.size + 1, 0, none⟩), undef, .pointer (some ⟨Bx, 0, none⟩), undef,
      .func (.func 154) #[] #[.pointer (some ⟨b1, 0, none⟩), .pointer (some ⟨b2, 0, none⟩)], .int .i64 x.1, .agg x.2.cs.toArray, undef, undef, undef, undef, undef, undef], defers := [] })
    ?hAx ?assign ?body ?done ?stop
  case hI =>
    rintro ps A A' row ⟨h1, h2, h3, h4⟩ hg hr
    exact ⟨h1.kept hg (fun e => by have := hr _ e.symm; omega), h2.own hg (fun r e => hr r e), h3.grown hg h3.size (fun k e => by have := hr _ e; omega), h4⟩
  case hIx =>
    rintro c ps A A' row ⟨hc, v, h1, h3, h4⟩ hg hr
    exact ⟨hc, v, h1.kept hg (fun e => by have := hr _ e.symm; omega), h3.grown hg h3.size (fun k e => by have := hr _ e; omega), h4⟩
  case h0 => exact ⟨HS2.out, KC.refl _ _, hB1, fun rest => rfl⟩
  case hAx =>
    intro x a'
    right
    rintro A l2 o o' ⟨Bx, h1, h2, h3⟩ hl ho
    exact ⟨Bx, h1, CellsAt.keepC (P := fun _ => True) h2 trivial (KC.putObj o' hl ho), h3⟩
  case assign =>
    rintro l2 ps ⟨d, xx, xcs, xrep, xmem⟩ W' K ⟨h1, h2, h3, h4⟩ hz hK
    obtain ⟨xk, xn, xs, xt, A0, p0, r0, A1, p1, r1, rfl⟩ := xrep.shape2
    gi_wp2
    exact hK _ _ (KeepsFrom.of_grownBy (World.grownBy_alloc W' _ none) (fun j e => by cases e)) (KC.alloc _ _ _) ⟨h1.kept (World.grownBy_alloc _ _ none) (by simp), h2.trans (KC.alloc _ _ _), h3.alloc h3.size _, h4⟩ ⟨W'.heap.size, hz, cellsAt_new _ _ _, rfl⟩
  case body =>
    rintro l2 ps ⟨d, xx, xcs, xrep, xmem⟩ a' W' hl2 ⟨rr, hrr⟩ ⟨h1, h2, h3, h4⟩ ⟨Bx, hBx, hcx, rfl⟩
    obtain ⟨xk, xn, xs, xt, A0, p0, r0, A1, p1, r1, rfl⟩ := xrep.shape2
    have d0 : W'.cell? ⟨Bx, 0, none⟩ = some (.int .i64 xk) := hcx 0 _ rfl
    have d1 : W'.cell? ⟨Bx, 1, none⟩ = some (.int .i64 xn) := hcx 1 _ rfl
    have d2 : W'.cell? ⟨Bx, 2, none⟩ = some (.string xs) := hcx 2 _ rfl
    have d3 : W'.cell? ⟨Bx, 3, none⟩ = some (.slice A0 p0 r0) := hcx 3 _ rfl
    have d4 : W'.cell? ⟨Bx, 4, none⟩ = some (.slice A1 p1 r1) := hcx 4 _ rfl
    have d5 : W'.cell? ⟨Bx, 5, none⟩ = some (.int .i64 xt) := hcx 5 _ rfl
    have x3 := (h2.2 _ _ _ (by omega) HS1.out.c).1
    have HC := Lib.hid (HCk.out _ xx xk xn xs xt A0 p0 r0 A1 p1 r1 W' (HUse.out.below h3) (xrep.keepC h2))
    obtain ⟨v, hv⟩ : ∃ v, v = chk xx := ⟨_, rfl⟩
    rw [← hv] at HC
    have HV := Lib.hid hv
    have HB := Lib.hid h1
    have HK := Lib.hid h2
    have HW := Lib.hid h3
    have H4 := Lib.hid h4
    have h1n : 1 ≤ 20 - 1 - 1 := by omega
    clear hcx h1 h2 h3 h4 hv
    by_cases hq : v = 0
    · subst hq
      gi_wp2_with (refine ⟨trivial, ?_⟩; gi_at_call 134; refine (CallsIn.inRound l2 ((callsIn_wide).2 HC.out)).mono ?_; rintro r W3 ⟨rfl, hb⟩)
      have hg := grown_below hb none
      refine ⟨KeepsFrom.of_grownBy hg (fun j e => by cases e), KC.of_grown hg (fun _ _ => by simp), HB.out.kept hg (by simp), HK.out.trans (KC.of_grown hg (fun _ _ => by simp)), HW.out.grown hg HW.out.size (fun j e => by cases e), fun rest => ?_⟩
      rw [List.map_append, List.append_assoc, H4.out]
      show firstT chk ((d, xx) :: rest) = _
      rw [firstT, if_pos HV.out.symm]
    · have hqb : (v == 0) = false := beq_eq_false_iff_ne.2 hq
      gi_wp2_with (refine ⟨trivial, ?_⟩; gi_at_call 134; refine (CallsIn.inRound l2 ((callsIn_wide).2 HC.out)).mono ?_; rintro r W3 ⟨rfl, hb⟩; have HB3 := Lib.hid (HB.out.kept (grown_below hb none) (by simp)); have c4 := HB3.out.c; have f4 := HB3.out.fr 0)
      have hg := grown_below hb none
      have hg2 := grown_set W3 ⟨w.heap.size + 1, 0, none⟩ (.int .i64 v)
      refine ⟨(KeepsFrom.of_grownBy hg (fun j e => by cases e)).trans ((KeepsOthers.setCell W3 ⟨w.heap.size + 1, 0, none⟩ (.int .i64 v)).from _), (KC.of_grown hg (fun _ _ => by simp)).trans (KC.of_grown hg2 (fun b hb e => hb (Option.some.inj e))), rfl, v, HB3.out.set _, (HW.out.grown hg HW.out.size (fun j e => by cases e)).grown hg2 (Nat.le_trans HW.out.size hg.size) (fun k e => by have : w.heap.size + 1 = k := Option.some.inj e; omega), fun rest => ?_⟩
      rw [List.map_append, List.append_assoc, H4.out]
      show firstT chk ((d, xx) :: rest) = _
      rw [firstT, if_neg (by rw [← HV.out]; exact hq)]
      exact HV.out.symm
  case done =>
    rintro D ys W' hD hS ⟨h1, h2, h3, h4⟩ hKD
    have c4 := h1.c
    have f4 := h1.fr 0
    gi_wp2
    have hg := grown_set W' ⟨w.heap.size + 1, 0, none⟩ (.int .i64 0)
    have hKD' := (KeepsOthers.setCell W' ⟨w.heap.size + 1, 0, none⟩ (.int .i64 0)).same D _ hKD rfl
    have hB := h3.grown hg h3.size (fun k e => by have : w.heap.size + 1 = k := Option.some.inj e; omega)
    refine ⟨by simp, .inl ⟨_, _, rfl, run_takeDeferred hKD', ?_⟩⟩
    refine ⟨_, res_firstT rfl ((KC.putObj (P := fun _ => True) (.deferred none) hKD' rfl).2 _ _ _ trivial (h1.set (.int .i64 0)).c).1, ?_, hB.grown (grownBy_putObj' _ D (.deferred none)) hB.size (fun k e => by have : D = k := Option.some.inj e; omega)⟩
    have := h4 []
    rw [List.append_nil, hS] at this
    rw [this]
    rfl
  case stop =>
    rintro D c ps W' hD hSp ⟨rfl, v, h1, h3, h4⟩ hKD
    gi_wp2
    refine ⟨by simp, .inl ⟨_, _, rfl, run_takeDeferred hKD, ?_⟩⟩
    refine ⟨_, res_firstT rfl ((KC.putObj (P := fun _ => True) (.deferred none) hKD rfl).2 _ _ _ trivial h1.c).1, ?_, h3.grown (grownBy_putObj' _ D (.deferred none)) h3.size (fun k e => by have : D = k := Option.some.inj e; omega)⟩
    obtain ⟨rest, hrest⟩ := hSp
    rw [← hrest, h4 rest]
set_option maxRecDepth 100000 in
set_option maxHeartbeats 4000000 in
theorem checkDeclared_any (P : Nat → Prop) (e : Ty) (k n : Int) (s : ByteArray) (t : Int) (A0 : Option Addr) (n0 c0 : Nat) (A1 : Option Addr) (n1 c1 : Nat) (w : World)
    (hre : RepT P w e [.int .i64 k, .int .i64 n, .string s, .slice A0 n0 c0, .slice A1 n1 c1, .int .i64 t]) (hh : hT e ≤ 900000) (hu : UsesT w) :
    Calls Tryz.prog 95 #[.agg #[.int .i64 k, .int .i64 n, .string s, .slice A0 n0 c0, .slice A1 n1 c1, .int .i64 t]] w fun r w' => r = .returned (.int .i64 (dcP e)) ∧ Below w.heap.size w w' := by
  have HN := Lib.hid (fun w => nodesT_any k n s t A0 n0 c0 A1 n1 c1 w)
  have HG : Hid (∀ w1 : World, w1.grownBy ((w1.alloc (.cells #[.int .i64 k, .int .i64 n, .string s, .slice A0 n0 c0, .slice A1 n1 c1, .int .i64 t] 63)).alloc (.cells #[.func (.func 133) #[] #[]] 212)) none) := Lib.hid (fun w1 => grown_trans (World.grownBy_alloc _ _ _) (World.grownBy_alloc _ _ _))
  have HC2 : Hid (∀ w1 : World, ((w1.alloc (.cells #[.int .i64 k, .int .i64 n, .string s, .slice A0 n0 c0, .slice A1 n1 c1, .int .i64 t] 63)).alloc (.cells #[.func (.func 133) #[] #[]] 212)).cell? ⟨w1.heap.size + 1, 0, none⟩ = some (.func (.func 133) #[] #[])) := Lib.hid (fun w1 => by
    have := (B1.new (w1.alloc (.cells #[.int .i64 k, .int .i64 n, .string s, .slice A0 n0 c0, .slice A1 n1 c1, .int .i64 t] 63)) 212 (.func (.func 133) #[] #[])).c
    rwa [World.size_alloc] at this)
  have HC1 : Hid (∀ w1 : World, CellsAt ((w1.alloc (.cells #[.int .i64 k, .int .i64 n, .string s, .slice A0 n0 c0, .slice A1 n1 c1, .int .i64 t] 63)).alloc (.cells #[.func (.func 133) #[] #[]] 212)) w1.heap.size 0 [.int .i64 k, .int .i64 n, .string s, .slice A0 n0 c0, .slice A1 n1 c1, .int .i64 t]) := Lib.hid (fun w1 => (cellsAt_new w1 _ _).keepC (P := fun _ => True) trivial (KC.alloc _ _ _))
  have HF : Hid (∀ w1, Below w.heap.size w w1 → Calls Tryz.prog 93 #[.func (.func 154) #[] #[.pointer (some ⟨w1.heap.size, 0, none⟩), .pointer (some ⟨w1.heap.size + 1, 0, none⟩)], .func (.func 134) #[] #[]]
      ((w1.alloc (.cells #[.int .i64 k, .int .i64 n, .string s, .slice A0 n0 c0, .slice A1 n1 c1, .int .i64 t] 63)).alloc (.cells #[.func (.func 133) #[] #[]] 212)) fun r w' =>
      r = .returned (.int .i64 (firstT clP (nodesT 1 e))) ∧ Below w1.heap.size w1 w') := Lib.hid (fun w1 hb => by
    refine (firstErrorCl_any clP (Lib.hid clP_says) w1.heap.size (w1.heap.size + 1) e _ _ (HC1.out w1) (HC2.out w1) ⟨by simp <;> omega, by simp <;> omega⟩ (((hre.keep (Same.of_below hb)).keep (Same.of_grown (HG.out w1) (fun _ _ => by simp))).tight.weaken (fun x hx => hx)) hh ((hu.below hb).grown (HG.out w1))).mono ?_
    rintro r w' ⟨h1, h2⟩
    exact ⟨h1, ((Below.refl w1.heap.size w1).grown (HG.out w1) (Nat.le_refl _) (fun j e => by cases e)).trans (h2.mono (HG.out w1).size)⟩)
  have HT : Hid (∀ w1, Below w.heap.size w w1 → Calls Tryz.prog 131 #[.agg #[.int .i64 k, .int .i64 n, .string s, .slice A0 n0 c0, .slice A1 n1 c1, .int .i64 t]] w1 fun r w' => r = .returned (.int .i64 (pkT e)) ∧ Below w1.heap.size w1 w') := Lib.hid (fun w1 hb => checkType_any P e k n s t A0 n0 c0 A1 n1 c1 w1 (hre.keep (Same.of_below hb)) hh (hu.below hb))
  obtain ⟨V, hV⟩ : ∃ V, V = pkT e := ⟨_, rfl⟩
  obtain ⟨U, hU⟩ : ∃ V, V = firstT clP (nodesT 1 e) := ⟨_, rfl⟩
  obtain ⟨R, hR⟩ : ∃ V, V = dcP e := ⟨_, rfl⟩
  have HR : Hid (R = if V = 0 then U else V) := Lib.hid (by rw [hR, hV, hU]; rfl)
  rw [← hV] at HT
  rw [← hU] at HF
  rw [← hR]
  have hmf : ∀ (fn : Fn) (first cap : Array Value) (w : World), (Instr.makeFunc fn first cap).run Tryz.prog w = .ok (.func fn first cap) w := fun _ _ _ _ => rfl
  obtain ⟨W1, hW1⟩ : ∃ W1, w.alloc (.cells #[.int .i64 k, .int .i64 n, .string s, .slice A0 n0 c0, .slice A1 n1 c1, .int .i64 t] 63) = W1 := ⟨_, rfl⟩
  have HB1 : Hid (Below w.heap.size w W1) := Lib.hid (by rw [← hW1]; exact (Below.refl _ _).alloc (Nat.le_refl _) _)
  have HE1 : Hid (TyBx W1 w.heap.size (.int .i64 k) (.int .i64 n) (.string s) (.slice A0 n0 c0) (.slice A1 n1 c1) (.int .i64 t)) := Lib.hid (by rw [← hW1]; exact TyBx.new w _ _ _ _ _ _)
  have a0 := HE1.out.c0
  have a1 := HE1.out.c1
  have a2 := HE1.out.c2
  have a3 := HE1.out.c3
  have a4 := HE1.out.c4
  have a5 := HE1.out.c5
  clear hV hU hR hre hh hu HC1 HC2 HG
  by_cases he : V = 0
  · subst he
    have HRf : Hid (R = U) := Lib.hid (by rw [HR.out, if_pos rfl])
    clear HR
    go_enter Tryz.func95, Tryz.ntmps95
    go_wp2_with fail
    clear hW1
    refine (HT.out _ HB1.out).mono ?_
    rintro e w2 ⟨rfl, hb⟩
    have HB2 := Lib.hid (HB1.out.trans (hb.mono HB1.out.size))
    have HE2 := Lib.hid (HE1.out.kept (grown_below hb none) (by simp))
    clear hb a0 a1 a2 a3 a4 a5
    have a0 := HE2.out.c0
    have a1 := HE2.out.c1
    have a2 := HE2.out.c2
    have a3 := HE2.out.c3
    have a4 := HE2.out.c4
    have a5 := HE2.out.c5
    go_wp2_with fail
    refine (HN.out _).mono ?_
    rintro e w3 ⟨rfl, rfl⟩
    go_wp2_with fail
    refine (HF.out _ HB2.out).mono ?_
    rintro e w4 ⟨rfl, hb⟩
    have HB3 := Lib.hid (HB2.out.trans (hb.mono HB2.out.size))
    clear hb
    go_wp2_with fail
    go_ret
    exact ⟨by rw [HRf.out]; rfl, HB3.out⟩
  · have hqb : (V == 0) = false := beq_eq_false_iff_ne.2 he
    have HRf : Hid (R = V) := Lib.hid (by rw [HR.out, if_neg he])
    clear HR
    go_enter Tryz.func95, Tryz.ntmps95
    go_wp2_with fail
    clear hW1
    refine (HT.out _ HB1.out).mono ?_
    rintro e w2 ⟨rfl, hb⟩
    have HB2 := Lib.hid (HB1.out.trans (hb.mono HB1.out.size))
    clear hb a0 a1 a2 a3 a4 a5
    go_wp2_with fail
    go_ret
    exact ⟨by rw [HRf.out]; rfl, HB2.out⟩
end Go.Proofs.YtbmicnajedeenaaGreatDoor
/- The program's first error of a list: Type. -/
namespace Go.Proofs.YtbmicnajedeenaaGreatDoor
open Go.RowKit Go.Shelf

attribute [local go_sem] Oper.semAt_some

set_option maxRecDepth 100000 in
set_option maxHeartbeats 4000000 in
theorem all_seqT (b1 : Nat) (P : Nat → Prop) (A : Option Addr) (nl c : Nat) (L : List Ty) (w : World) (hb1 : w.cell? ⟨b1, 0, none⟩ = some (.slice A nl c)) (hp1 : P b1) (hl : RowAt P w A 6 (RepT P w) L) (hnl : nl = L.length) (hlm : nl ≤ maxLen) :
    SeqX 19 130 #[.pointer (some ⟨b1, 0, none⟩)] (elx (R := RepT P w) (M := (· ∈ L))) P (fun ys => ys.map El.x = L) (fun ps => ps.map El.x <+: L) w := by
  intro l J Jx W hg hJ hJx hY h0
  have hc : KC P w W := KC.of_grown hg (fun _ _ => by simp)
  have HC5 : Hid (∀ wr, KC P W wr → wr.cell? ⟨b1, 0, none⟩ = some (.slice A nl c)) := fun wr h => ((hc.trans h).2 _ _ _ hp1 hb1).1
  have c5 := HC5.out W (KC.refl _ _)
  have HL := Lib.hid hl
  have HW := Lib.hid hc
  have HY := Lib.hid hY
  have HNL := Lib.hid hnl
  have HJ := Lib.hid hJ
  unfold maxLen at hlm
  clear hl hY hb1 hnl hg hJx hJ hc
  refine callsIn_of_wp Tryz.func130 rfl trivial ?_ rfl
  simp only [Tryz.ntmps130, List.size_toArray, List.length_cons, List.length_nil, Nat.reduceAdd, Nat.reduceSub, Array.replicate_succ, Array.replicate_zero, List.push_toArray, List.append_toArray, List.nil_append, List.cons_append]
  gi_wp2
  gi_loopw [7] (fun i wr => ∃ (k : Nat) (pre : List (El (RepT P w) (· ∈ L))), k ≤ nl ∧ i = .int .i64 (k : Int) ∧ Hid (pre.map El.x = L.take k) ∧ Hid (J pre wr) ∧ Hid (KC P W wr)) (fun i _ => nl - (intOf i).toNat)
  case atStart => exact ⟨0, [], Nat.zero_le _, rfl, Lib.hid (by simp), Lib.hid h0, Lib.hid (KC.refl _ _)⟩
  case round =>
    clear c5
    obtain ⟨j, pre, hk, rfl, hpre, hJs, hkc⟩ := hrel
    by_cases hkl : j < nl
    · have hkl' : j < L.length := by rw [← HNL.out]; exact hkl
      obtain ⟨b, off, rfl, hp, hlt, hr⟩ := HL.out (List.ne_nil_of_length_pos (by omega))
      obtain ⟨cs, hcl, hc, he⟩ := hr j _ (List.getElem?_eq_getElem hkl')
      obtain ⟨k, n, s, A0, n0, m0, A1, n1, m1, t, rfl⟩ := he.shape3
      have HX := Lib.hid he
      have hcw := (hc.keepC hp HW.out).keepC hp hkc.out
      have c5 := HC5.out wr hkc.out
      have d0 := hcw 0 _ rfl
      have d1 := hcw 1 _ rfl
      have d2 := hcw 2 _ rfl
      have d3 := hcw 3 _ rfl
      have d4 := hcw 4 _ rfl
      have d5 := hcw 5 _ rfl
      rw [Nat.add_zero] at d0
      have i0 : (0 : Int) ≤ (j : Int) := by omega
      have i1 : (j : Int) < (nl : Int) := by omega
      have HTk : Hid (L.take (j + 1) = L.take j ++ [L[j]]) := Lib.hid (by rw [List.take_add_one, List.getElem?_eq_getElem hkl']; rfl)
      obtain ⟨fn, tmps, assign, body, hy, hR⟩ := HY.out pre ⟨j, L[j], _, he, List.getElem_mem hkl'⟩ (wr.alloc (.cells #[.int .i64 k, .int .i64 n, .string s, .slice A0 n0 m0, .slice A1 n1 m1, .int .i64 t] 63)) (HJ.out.alloc _ hJs.out)
      have HR := Lib.hid hR
      dsimp only [elx] at hy
      clear hcw hc hr hp hlt hR
      gi_wp2
      have HK1 : Hid (KC P W (wr.alloc (.cells #[.int .i64 k, .int .i64 n, .string s, .slice A0 n0 m0, .slice A1 n1 m1, .int .i64 t] 63))) := Lib.hid (hkc.out.trans (KC.alloc _ _ _))
      refine HR.out.mono ?_
      rintro e W3 (⟨rfl, hJ3, hk3, _⟩ | ⟨rfl, hJx3, _, _⟩)
      · have HJ3 := Lib.hid hJ3
        have HK3 := Lib.hid (HK1.out.trans hk3)
        clear hJ3 hk3
        gi_wp2
        go_roundw
        case rel => exact ⟨j + 1, pre ++ [⟨j, L[j], _, HX.out, List.getElem_mem hkl'⟩], by omega, by go_num, Lib.hid (by rw [HTk.out, List.map_append, hpre.out]; rfl), HJ3, HK3⟩
        case measure => simp [intOf]; omega
      · gi_wp2
        refine bodyPost_ret (results_none rfl _ _ _) rfl ?_
        exact ⟨⟨_, rfl⟩, .inr ⟨_, by
          rw [List.map_append, hpre.out]
          show L.take j ++ [L[j]] <+: L
          rw [← HTk.out]
          exact List.take_prefix _ _, hJx3⟩⟩
    · obtain rfl : j = nl := by omega
      have HALL : Hid (pre.map El.x = L) := Lib.hid (by have := hpre.out; rwa [HNL.out, List.take_length] at this)
      have c5 := HC5.out wr hkc.out
      gi_wp2
      go_end0
      exact ⟨⟨_, rfl⟩, .inl ⟨pre, HALL.out, hJs.out⟩⟩
set_option maxRecDepth 100000 in
set_option maxHeartbeats 4000000 in
theorem firstErrRowT_any (f : Ty → Int) (b1 : Nat) (A : Option Addr) (nl c : Nat) (L : List Ty) (w : World) (hb1 : w.cell? ⟨b1, 0, none⟩ = some (.slice A nl c)) (hl1 : b1 < w.heap.size)
    (hL : RowAt (fun b => b < w.heap.size) w A 6 (RepT (fun b => b < w.heap.size) w) L) (hnl : nl = L.length) (hlm : nl ≤ maxLen)
    (hck : ∀ x ∈ L, ∀ (P : Nat → Prop) (k n : Int) (s : ByteArray) (A0 : Option Addr) (n0 m0 : Nat) (A1 : Option Addr) (n1 m1 : Nat) (t : Int) (w' : World), Below w.heap.size w w' → RepT P w' x [.int .i64 k, .int .i64 n, .string s, .slice A0 n0 m0, .slice A1 n1 m1, .int .i64 t] → Calls Tryz.prog 95 #[.agg #[.int .i64 k, .int .i64 n, .string s, .slice A0 n0 m0, .slice A1 n1 m1, .int .i64 t]] w' fun r w2 => r = .returned (.int .i64 (f x)) ∧ Below w'.heap.size w' w2) :
    Calls Tryz.prog 93 #[.func (.func 130) #[] #[.pointer (some ⟨b1, 0, none⟩)], .func (.func 95) #[] #[]] w fun r w' =>
      r = .returned (.int .i64 (firstE f L)) ∧ Below w.heap.size w w' := by
  obtain ⟨W1, hW1⟩ : ∃ W1, (w.alloc (.cells #[.func (.func 95) #[] #[]] 166)).alloc (.cells #[.int .i64 0] 35) = W1 := ⟨_, rfl⟩
  have hg1 : ∀ row, w.grownBy W1 row := fun row => by rw [← hW1]; exact grown_trans (World.grownBy_alloc _ _ _) (World.grownBy_alloc _ _ _)
  have hz1 : W1.heap.size = w.heap.size + 2 := by rw [← hW1]; simp
  have hc1 : KC (fun _ => True) w W1 := KC.of_grown (hg1 none) (fun _ _ => by simp)
  have hB1 : Below w.heap.size w W1 := by rw [← hW1]; exact ((Below.refl _ _).alloc (Nat.le_refl _) _).alloc (by simp) _
  have HS1 : Hid (B1 W1 w.heap.size 166 (.func (.func 95) #[] #[])) := by rw [← hW1]; exact (B1.new w _ _).kept (World.grownBy_alloc _ _ none) (by simp)
  have HS2 : Hid (B1 W1 (w.heap.size + 1) 35 (.int .i64 0)) := by
    rw [← hW1]
    have := B1.new (w.alloc (.cells #[.func (.func 95) #[] #[]] 166)) 35 (.int .i64 0)
    rwa [World.size_alloc] at this
  have hq : ∀ b, b < w.heap.size → b ≠ w.heap.size + 1 := fun b hb => by omega
  have hseq := all_seqT b1 (fun b => b ≠ w.heap.size + 1) A nl c L W1 ((hc1.2 _ _ _ trivial hb1).1) (by omega) ((hL.weaken hq (fun _ _ h => h.weaken hq)).keepC (KC.of_grown (hg1 none) (fun _ _ => by simp)) (fun _ _ h => h.keepC (KC.of_grown (hg1 none) (fun _ _ => by simp)))) hnl hlm
  have HSeq := Lib.hid hseq
  have HCk := Lib.hid hck
  clear hseq hb1 hL hc1 hlm hnl hck
  refine callsIn_wide (n := 20) |>.1 ?_
  refine callsIn_of_wp_marks Tryz.func93 rfl trivial ?_ rfl
  simp only [Tryz.ntmps93, List.size_toArray, List.length_cons, List.length_nil, Nat.reduceAdd, Nat.reduceSub, Array.replicate_succ, Array.replicate_zero, List.push_toArray, List.append_toArray, List.nil_append, List.cons_append]
  gi_wp2
  clear hW1
  refine range_x (n := 20) (by omega) (gf := 130) (lb := #[.pointer (some ⟨b1, 0, none⟩)]) rfl (enters_of Tryz.func130 (by kernel_rfl) rfl) HSeq.out (fun _ => rfl)
    (fun ps W' => B1 W' (w.heap.size + 1) 35 (.int .i64 0) ∧ KC (fun b => b ≠ w.heap.size + 1) W1 W' ∧ Below w.heap.size w W' ∧ firstE f (ps.map El.x) = 0)
    (fun c ps W' => c = .ret ∧ ∃ v : Int, B1 W' (w.heap.size + 1) 35 (.int .i64 v) ∧ Below w.heap.size w W' ∧ v ≠ 0 ∧ firstE f (ps.map El.x) = v)
    ?hI ?hIx ?h0 (fun x a' W' => ∃ Bx, W1.heap.size ≤ Bx ∧ CellsAt W' Bx 0 x.cs ∧ a' = { tmps := #[.func (.func 130) #[] #[.pointer (some ⟨b1, 0, none⟩)], .func (.func 95) #[] #[], undef, .pointer (some ⟨w.heap.size, 0, none⟩), .pointer (some ⟨w.heap.size + 1, 0, none⟩), undef, .pointer (some ⟨Bx, 0, none⟩), undef,
      .func (.func 130) #[] #[.pointer (some ⟨b1, 0, none⟩)], .int .i64 x.i, .agg x.cs.toArray, undef, undef, undef, undef, undef, undef], defers := [] })
    ?hAx ?assign ?body ?done ?stop
  case hI =>
    rintro ps A A' row ⟨h1, h2, h3, h4⟩ hg hr
    exact ⟨h1.kept hg (fun e => by have := hr _ e.symm; omega), h2.own hg (fun r e => hr r e), h3.grown hg h3.size (fun k e => by have := hr _ e; omega), h4⟩
  case hIx =>
    rintro c ps A A' row ⟨hc, v, h1, h3, h4⟩ hg hr
    exact ⟨hc, v, h1.kept hg (fun e => by have := hr _ e.symm; omega), h3.grown hg h3.size (fun k e => by have := hr _ e; omega), h4⟩
  case h0 => exact ⟨HS2.out, KC.refl _ _, hB1, rfl⟩
  case hAx =>
    intro x a'
    right
    rintro A l2 o o' ⟨Bx, h1, h2, h3⟩ hl ho
    exact ⟨Bx, h1, CellsAt.keepC (P := fun _ => True) h2 trivial (KC.putObj o' hl ho), h3⟩
  case assign =>
    rintro l2 ps ⟨d, xx, xcs, xrep, xmem⟩ W' K ⟨h1, h2, h3, h4⟩ hz hK
    obtain ⟨k, n, s, A0, n0, m0, A1, n1, m1, t, rfl⟩ := xrep.shape3
    unfold elx
    gi_wp2
    exact hK _ _ (KeepsFrom.of_grownBy (World.grownBy_alloc W' _ none) (fun j e => by cases e)) (KC.alloc _ _ _) ⟨h1.kept (World.grownBy_alloc _ _ none) (by simp), h2.trans (KC.alloc _ _ _), h3.alloc h3.size _, h4⟩ ⟨W'.heap.size, hz, cellsAt_new _ _ _, rfl⟩
  case body =>
    rintro l2 ps ⟨d, xx, xcs, xrep, xmem⟩ a' W' hl2 ⟨rr, hrr⟩ ⟨h1, h2, h3, h4⟩ ⟨Bx, hBx, hcx, rfl⟩
    obtain ⟨k, n, s, A0, n0, m0, A1, n1, m1, t, rfl⟩ := xrep.shape3
    have d0 : W'.cell? ⟨Bx, 0, none⟩ = some (.int .i64 k) := by have := hcx 0 _ rfl; simpa using this
    have d1 : W'.cell? ⟨Bx, 1, none⟩ = some (.int .i64 n) := by have := hcx 1 _ rfl; simpa using this
    have d2 : W'.cell? ⟨Bx, 2, none⟩ = some (.string s) := by have := hcx 2 _ rfl; simpa using this
    have d3 : W'.cell? ⟨Bx, 3, none⟩ = some (.slice A0 n0 m0) := by have := hcx 3 _ rfl; simpa using this
    have d4 : W'.cell? ⟨Bx, 4, none⟩ = some (.slice A1 n1 m1) := by have := hcx 4 _ rfl; simpa using this
    have d5 : W'.cell? ⟨Bx, 5, none⟩ = some (.int .i64 t) := by have := hcx 5 _ rfl; simpa using this
    have x3 := (h2.2 _ _ _ (by omega) HS1.out.c).1
    have HC := Lib.hid (HCk.out xx xmem _ k n s A0 n0 m0 A1 n1 m1 t W' h3 (xrep.keepC h2))
    obtain ⟨v, hv⟩ : ∃ v, v = f xx := ⟨_, rfl⟩
    rw [← hv] at HC
    obtain ⟨y, hy⟩ : ∃ y : El (RepT (fun b => b ≠ w.heap.size + 1) W1) (· ∈ L), y = ⟨d, xx, _, xrep, xmem⟩ := ⟨_, rfl⟩
    have HSn : Hid (firstE f ((ps ++ [y]).map El.x) = v) := Lib.hid (by rw [hy, List.map_append, List.map_cons, List.map_nil, firstE_snoc _ _ _ h4, hv])
    have HB := Lib.hid h1
    have HK := Lib.hid h2
    have HW := Lib.hid h3
    have h1n : 1 ≤ 20 - 1 - 1 := by omega
    rw [← hy]
    clear hcx h1 h2 h3 h4 hv hy
    by_cases hq : v = 0
    · subst hq
      gi_wp2_with (refine ⟨trivial, ?_⟩; gi_at_call 95; refine (CallsIn.inRound l2 ((callsIn_wide).2 HC.out)).mono ?_; rintro r W3 ⟨rfl, hb⟩)
      have hg := grown_below hb none
      exact ⟨KeepsFrom.of_grownBy hg (fun j e => by cases e), KC.of_grown hg (fun _ _ => by simp), HB.out.kept hg (by simp), HK.out.trans (KC.of_grown hg (fun _ _ => by simp)), HW.out.grown hg HW.out.size (fun j e => by cases e), HSn.out⟩
    · have hqb : (v == 0) = false := beq_eq_false_iff_ne.2 hq
      gi_wp2_with (refine ⟨trivial, ?_⟩; gi_at_call 95; refine (CallsIn.inRound l2 ((callsIn_wide).2 HC.out)).mono ?_; rintro r W3 ⟨rfl, hb⟩; have HB3 := Lib.hid (HB.out.kept (grown_below hb none) (by simp)); have c4 := HB3.out.c; have f4 := HB3.out.fr 0)
      have hg := grown_below hb none
      have hg2 := grown_set W3 ⟨w.heap.size + 1, 0, none⟩ (.int .i64 v)
      exact ⟨(KeepsFrom.of_grownBy hg (fun j e => by cases e)).trans ((KeepsOthers.setCell W3 ⟨w.heap.size + 1, 0, none⟩ (.int .i64 v)).from _), (KC.of_grown hg (fun _ _ => by simp)).trans (KC.of_grown hg2 (fun b hb e => hb (Option.some.inj e))), rfl, v, HB3.out.set _, (HW.out.grown hg HW.out.size (fun j e => by cases e)).grown hg2 (Nat.le_trans HW.out.size hg.size) (fun k e => by have : w.heap.size + 1 = k := Option.some.inj e; omega), hq, HSn.out⟩
  case done =>
    rintro D ys W' hD hS ⟨h1, h2, h3, h4⟩ hKD
    have c4 := h1.c
    have f4 := h1.fr 0
    gi_wp2
    have hg := grown_set W' ⟨w.heap.size + 1, 0, none⟩ (.int .i64 0)
    have hKD' := (KeepsOthers.setCell W' ⟨w.heap.size + 1, 0, none⟩ (.int .i64 0)).same D _ hKD rfl
    have hB := h3.grown hg h3.size (fun k e => by have : w.heap.size + 1 = k := Option.some.inj e; omega)
    refine ⟨by simp, .inl ⟨_, _, rfl, run_takeDeferred hKD', ?_⟩⟩
    refine ⟨_, res_firstT rfl ((KC.putObj (P := fun _ => True) (.deferred none) hKD' rfl).2 _ _ _ trivial (h1.set (.int .i64 0)).c).1, ?_, hB.grown (grownBy_putObj' _ D (.deferred none)) hB.size (fun k e => by have : D = k := Option.some.inj e; omega)⟩
    rw [hS] at h4
    rw [h4]
  case stop =>
    rintro D c ps W' hD hSp ⟨rfl, v, h1, h3, hv, h4⟩ hKD
    gi_wp2
    refine ⟨by simp, .inl ⟨_, _, rfl, run_takeDeferred hKD, ?_⟩⟩
    refine ⟨_, res_firstT rfl ((KC.putObj (P := fun _ => True) (.deferred none) hKD rfl).2 _ _ _ trivial h1.c).1, ?_, h3.grown (grownBy_putObj' _ D (.deferred none)) h3.size (fun k e => by have : D = k := Option.some.inj e; omega)⟩
    obtain ⟨rest, hrest⟩ := hSp
    rw [← hrest, firstE_app, h4, if_neg hv]
/-- slices.All, made and called -/
theorem allOfT (A : Option Addr) (n c : Nat) (w : World) : Calls Tryz.prog 94 #[.slice A n c] w fun e w' => e = .returned (.func (.func 130) #[] #[.pointer (some ⟨w.heap.size, 0, none⟩)]) ∧ w' = w.alloc (.cells #[.slice A n c] 51) := by
  have hmf : ∀ (fn : Fn) (first cap : Array Value) (w : World), (Instr.makeFunc fn first cap).run Tryz.prog w = .ok (.func fn first cap) w := fun _ _ _ _ => rfl
  go_enter Tryz.func94, Tryz.ntmps94
  go_wp2_with fail
  go_ret
  exact ⟨rfl, rfl⟩
/-- the first error of a row -/
theorem firstRowT_any (f : Ty → Int) (A : Option Addr) (nl c : Nat) (L : List Ty) (P : Nat → Prop) (w : World) (hL : RowAt P w A 6 (RepT P w) L) (hnl : nl = L.length) (hlm : nl ≤ maxLen)
    (hck : ∀ x ∈ L, ∀ (P : Nat → Prop) (k n : Int) (s : ByteArray) (A0 : Option Addr) (n0 m0 : Nat) (A1 : Option Addr) (n1 m1 : Nat) (t : Int) (w' : World), Below w.heap.size w w' → RepT P w' x [.int .i64 k, .int .i64 n, .string s, .slice A0 n0 m0, .slice A1 n1 m1, .int .i64 t] → Calls Tryz.prog 95 #[.agg #[.int .i64 k, .int .i64 n, .string s, .slice A0 n0 m0, .slice A1 n1 m1, .int .i64 t]] w' fun r w2 => r = .returned (.int .i64 (f x)) ∧ Below w'.heap.size w' w2) :
    ∀ w1, Below w.heap.size w w1 → Calls Tryz.prog 93 #[.func (.func 130) #[] #[.pointer (some ⟨w1.heap.size, 0, none⟩)], .func (.func 95) #[] #[]] (w1.alloc (.cells #[.slice A nl c] 51)) fun r w' =>
      r = .returned (.int .i64 (firstE f L)) ∧ Below w1.heap.size w1 w' := fun w1 hb => by
  have hb2 := (Below.refl w1.heap.size w1).alloc (Nat.le_refl _) (.cells #[.slice A nl c] 51)
  have hb3 : Below w.heap.size w (w1.alloc (.cells #[.slice A nl c] 51)) := hb.trans (hb2.mono hb.size)
  have hk : KC P w (w1.alloc (.cells #[.slice A nl c] 51)) := KC.of_same hb3
  refine (firstErrRowT_any f w1.heap.size A nl c L _ (B1.new w1 _ _).c (by simp) ((hL.keepC hk (fun _ _ h => h.keepC hk)).tight (fun _ _ h => h.tight)) hnl hlm (fun x hx P' k n s A0 n0 m0 A1 n1 m1 t w2 hw2 hr => hck x hx P' k n s A0 n0 m0 A1 n1 m1 t w2 (hb3.trans (hw2.mono hb3.size)) hr)).mono ?_
  rintro r w' ⟨h1, h2⟩
  exact ⟨h1, hb2.trans (h2.mono (by simp))⟩
end Go.Proofs.YtbmicnajedeenaaGreatDoor
/- The program's first error of a list: Cons. -/
namespace Go.Proofs.YtbmicnajedeenaaGreatDoor
open Go.RowKit Go.Shelf

attribute [local go_sem] Oper.semAt_some

theorem res_firstC {tmps : Array Value} {w : World} {g1 : Nat} {a : Int} (h2 : tmps.getD 4 undef = .pointer (some ⟨g1, 0, none⟩)) (c1 : w.cell? ⟨g1, 0, none⟩ = some (.int .i64 a)) :
    (results Tryz.f41 tmps).run Tryz.prog w = .ok (.int .i64 a) w := by
  have h2' : tmps[4]?.getD undef = .pointer (some ⟨g1, 0, none⟩) := by simpa using h2
  simp [results, Tryz.results41, go_sem, h2', c1]
set_option maxRecDepth 100000 in
set_option maxHeartbeats 4000000 in
theorem all_seqC (b1 : Nat) (P : Nat → Prop) (A : Option Addr) (nl c : Nat) (L : List Cn) (w : World) (hb1 : w.cell? ⟨b1, 0, none⟩ = some (.slice A nl c)) (hp1 : P b1) (hl : RowAt P w A 2 (CnC P w) L) (hnl : nl = L.length) (hlm : nl ≤ maxLen) :
    SeqX 19 92 #[.pointer (some ⟨b1, 0, none⟩)] (elx (R := CnC P w) (M := (· ∈ L))) P (fun ys => ys.map El.x = L) (fun ps => ps.map El.x <+: L) w := by
  intro l J Jx W hg hJ hJx hY h0
  have hc : KC P w W := KC.of_grown hg (fun _ _ => by simp)
  have HC5 : Hid (∀ wr, KC P W wr → wr.cell? ⟨b1, 0, none⟩ = some (.slice A nl c)) := fun wr h => ((hc.trans h).2 _ _ _ hp1 hb1).1
  have c5 := HC5.out W (KC.refl _ _)
  have HL := Lib.hid hl
  have HW := Lib.hid hc
  have HY := Lib.hid hY
  have HNL := Lib.hid hnl
  have HJ := Lib.hid hJ
  unfold maxLen at hlm
  clear hl hY hb1 hnl hg hJx hJ hc
  refine callsIn_of_wp Tryz.func92 rfl trivial ?_ rfl
  simp only [Tryz.ntmps92, List.size_toArray, List.length_cons, List.length_nil, Nat.reduceAdd, Nat.reduceSub, Array.replicate_succ, Array.replicate_zero, List.push_toArray, List.append_toArray, List.nil_append, List.cons_append]
  gi_wp2
  gi_loopw [7] (fun i wr => ∃ (k : Nat) (pre : List (El (CnC P w) (· ∈ L))), k ≤ nl ∧ i = .int .i64 (k : Int) ∧ Hid (pre.map El.x = L.take k) ∧ Hid (J pre wr) ∧ Hid (KC P W wr)) (fun i _ => nl - (intOf i).toNat)
  case atStart => exact ⟨0, [], Nat.zero_le _, rfl, Lib.hid (by simp), Lib.hid h0, Lib.hid (KC.refl _ _)⟩
  case round =>
    clear c5
    obtain ⟨j, pre, hk, rfl, hpre, hJs, hkc⟩ := hrel
    by_cases hkl : j < nl
    · have hkl' : j < L.length := by rw [← HNL.out]; exact hkl
      obtain ⟨b, off, rfl, hp, hlt, hr⟩ := HL.out (List.ne_nil_of_length_pos (by omega))
      obtain ⟨cs, hcl, hc, he⟩ := hr j _ (List.getElem?_eq_getElem hkl')
      obtain ⟨S, A0, n0, m0, rfl⟩ := he.shape
      have HX := Lib.hid he
      have hcw := (hc.keepC hp HW.out).keepC hp hkc.out
      have c5 := HC5.out wr hkc.out
      have d0 := hcw 0 _ rfl
      have d1 := hcw 1 _ rfl
      rw [Nat.add_zero] at d0
      have i0 : (0 : Int) ≤ (j : Int) := by omega
      have i1 : (j : Int) < (nl : Int) := by omega
      have HTk : Hid (L.take (j + 1) = L.take j ++ [L[j]]) := Lib.hid (by rw [List.take_add_one, List.getElem?_eq_getElem hkl']; rfl)
      obtain ⟨fn, tmps, assign, body, hy, hR⟩ := HY.out pre ⟨j, L[j], _, he, List.getElem_mem hkl'⟩ (wr.alloc (.cells #[.string S, .slice A0 n0 m0] 53)) (HJ.out.alloc _ hJs.out)
      have HR := Lib.hid hR
      dsimp only [elx] at hy
      clear hcw hc hr hp hlt hR
      gi_wp2
      have HK1 : Hid (KC P W (wr.alloc (.cells #[.string S, .slice A0 n0 m0] 53))) := Lib.hid (hkc.out.trans (KC.alloc _ _ _))
      refine HR.out.mono ?_
      rintro e W3 (⟨rfl, hJ3, hk3, _⟩ | ⟨rfl, hJx3, _, _⟩)
      · have HJ3 := Lib.hid hJ3
        have HK3 := Lib.hid (HK1.out.trans hk3)
        clear hJ3 hk3
        gi_wp2
        go_roundw
        case rel => exact ⟨j + 1, pre ++ [⟨j, L[j], _, HX.out, List.getElem_mem hkl'⟩], by omega, by go_num, Lib.hid (by rw [HTk.out, List.map_append, hpre.out]; rfl), HJ3, HK3⟩
        case measure => simp [intOf]; omega
      · gi_wp2
        refine bodyPost_ret (results_none rfl _ _ _) rfl ?_
        exact ⟨⟨_, rfl⟩, .inr ⟨_, by
          rw [List.map_append, hpre.out]
          show L.take j ++ [L[j]] <+: L
          rw [← HTk.out]
          exact List.take_prefix _ _, hJx3⟩⟩
    · obtain rfl : j = nl := by omega
      have HALL : Hid (pre.map El.x = L) := Lib.hid (by have := hpre.out; rwa [HNL.out, List.take_length] at this)
      have c5 := HC5.out wr hkc.out
      gi_wp2
      go_end0
      exact ⟨⟨_, rfl⟩, .inl ⟨pre, HALL.out, hJs.out⟩⟩
set_option maxRecDepth 100000 in
set_option maxHeartbeats 4000000 in
theorem firstErrRowC_any (f : Cn → Int) (b1 : Nat) (A : Option Addr) (nl c : Nat) (L : List Cn) (w : World) (hb1 : w.cell? ⟨b1, 0, none⟩ = some (.slice A nl c)) (hl1 : b1 < w.heap.size)
    (hL : RowAt (fun b => b < w.heap.size) w A 2 (CnC (fun b => b < w.heap.size) w) L) (hnl : nl = L.length) (hlm : nl ≤ maxLen)
    (hck : ∀ x ∈ L, ∀ (P : Nat → Prop) (S : ByteArray) (A0 : Option Addr) (n0 m0 : Nat) (w' : World), Below w.heap.size w w' → CnC P w' x [.string S, .slice A0 n0 m0] → Calls Tryz.prog 43 #[.agg #[.string S, .slice A0 n0 m0]] w' fun r w2 => r = .returned (.int .i64 (f x)) ∧ Below w'.heap.size w' w2) :
    Calls Tryz.prog 41 #[.func (.func 92) #[] #[.pointer (some ⟨b1, 0, none⟩)], .func (.func 43) #[] #[]] w fun r w' =>
      r = .returned (.int .i64 (firstE f L)) ∧ Below w.heap.size w w' := by
  obtain ⟨W1, hW1⟩ : ∃ W1, (w.alloc (.cells #[.func (.func 43) #[] #[]] 118)).alloc (.cells #[.int .i64 0] 35) = W1 := ⟨_, rfl⟩
  have hg1 : ∀ row, w.grownBy W1 row := fun row => by rw [← hW1]; exact grown_trans (World.grownBy_alloc _ _ _) (World.grownBy_alloc _ _ _)
  have hz1 : W1.heap.size = w.heap.size + 2 := by rw [← hW1]; simp
  have hc1 : KC (fun _ => True) w W1 := KC.of_grown (hg1 none) (fun _ _ => by simp)
  have hB1 : Below w.heap.size w W1 := by rw [← hW1]; exact ((Below.refl _ _).alloc (Nat.le_refl _) _).alloc (by simp) _
  have HS1 : Hid (B1 W1 w.heap.size 118 (.func (.func 43) #[] #[])) := by rw [← hW1]; exact (B1.new w _ _).kept (World.grownBy_alloc _ _ none) (by simp)
  have HS2 : Hid (B1 W1 (w.heap.size + 1) 35 (.int .i64 0)) := by
    rw [← hW1]
    have := B1.new (w.alloc (.cells #[.func (.func 43) #[] #[]] 118)) 35 (.int .i64 0)
    rwa [World.size_alloc] at this
  have hq : ∀ b, b < w.heap.size → b ≠ w.heap.size + 1 := fun b hb => by omega
  have hseq := all_seqC b1 (fun b => b ≠ w.heap.size + 1) A nl c L W1 ((hc1.2 _ _ _ trivial hb1).1) (by omega) ((hL.weaken hq (fun _ _ h => h.weaken hq)).keepC (KC.of_grown (hg1 none) (fun _ _ => by simp)) (fun _ _ h => h.keepC (KC.of_grown (hg1 none) (fun _ _ => by simp)))) hnl hlm
  have HSeq := Lib.hid hseq
  have HCk := Lib.hid hck
  clear hseq hb1 hL hc1 hlm hnl hck
  refine callsIn_wide (n := 20) |>.1 ?_
  refine callsIn_of_wp_marks Tryz.func41 rfl trivial ?_ rfl
  simp only [Tryz.ntmps41, List.size_toArray, List.length_cons, List.length_nil, Nat.reduceAdd, Nat.reduceSub, Array.replicate_succ, Array.replicate_zero, List.push_toArray, List.append_toArray, List.nil_append, List.cons_append]
  gi_wp2
  clear hW1
  refine range_x (n := 20) (by omega) (gf := 92) (lb := #[.pointer (some ⟨b1, 0, none⟩)]) rfl (enters_of Tryz.func92 (by kernel_rfl) rfl) HSeq.out (fun _ => rfl)
    (fun ps W' => B1 W' (w.heap.size + 1) 35 (.int .i64 0) ∧ KC (fun b => b ≠ w.heap.size + 1) W1 W' ∧ Below w.heap.size w W' ∧ firstE f (ps.map El.x) = 0)
    (fun c ps W' => c = .ret ∧ ∃ v : Int, B1 W' (w.heap.size + 1) 35 (.int .i64 v) ∧ Below w.heap.size w W' ∧ v ≠ 0 ∧ firstE f (ps.map El.x) = v)
    ?hI ?hIx ?h0 (fun x a' W' => ∃ Bx, W1.heap.size ≤ Bx ∧ CellsAt W' Bx 0 x.cs ∧ a' = { tmps := #[.func (.func 92) #[] #[.pointer (some ⟨b1, 0, none⟩)], .func (.func 43) #[] #[], undef, .pointer (some ⟨w.heap.size, 0, none⟩), .pointer (some ⟨w.heap.size + 1, 0, none⟩), undef, .pointer (some ⟨Bx, 0, none⟩), undef,
      .func (.func 92) #[] #[.pointer (some ⟨b1, 0, none⟩)], .int .i64 x.i, .agg x.cs.toArray, undef, undef, undef, undef, undef, undef], defers := [] })
    ?hAx ?assign ?body ?done ?stop
  case hI =>
    rintro ps A A' row ⟨h1, h2, h3, h4⟩ hg hr
    exact ⟨h1.kept hg (fun e => by have := hr _ e.symm; omega), h2.own hg (fun r e => hr r e), h3.grown hg h3.size (fun k e => by have := hr _ e; omega), h4⟩
  case hIx =>
    rintro c ps A A' row ⟨hc, v, h1, h3, h4⟩ hg hr
    exact ⟨hc, v, h1.kept hg (fun e => by have := hr _ e.symm; omega), h3.grown hg h3.size (fun k e => by have := hr _ e; omega), h4⟩
  case h0 => exact ⟨HS2.out, KC.refl _ _, hB1, rfl⟩
  case hAx =>
    intro x a'
    right
    rintro A l2 o o' ⟨Bx, h1, h2, h3⟩ hl ho
    exact ⟨Bx, h1, CellsAt.keepC (P := fun _ => True) h2 trivial (KC.putObj o' hl ho), h3⟩
  case assign =>
    rintro l2 ps ⟨d, xx, xcs, xrep, xmem⟩ W' K ⟨h1, h2, h3, h4⟩ hz hK
    obtain ⟨S, A0, n0, m0, rfl⟩ := xrep.shape
    unfold elx
    gi_wp2
    exact hK _ _ (KeepsFrom.of_grownBy (World.grownBy_alloc W' _ none) (fun j e => by cases e)) (KC.alloc _ _ _) ⟨h1.kept (World.grownBy_alloc _ _ none) (by simp), h2.trans (KC.alloc _ _ _), h3.alloc h3.size _, h4⟩ ⟨W'.heap.size, hz, cellsAt_new _ _ _, rfl⟩
  case body =>
    rintro l2 ps ⟨d, xx, xcs, xrep, xmem⟩ a' W' hl2 ⟨rr, hrr⟩ ⟨h1, h2, h3, h4⟩ ⟨Bx, hBx, hcx, rfl⟩
    obtain ⟨S, A0, n0, m0, rfl⟩ := xrep.shape
    have d0 : W'.cell? ⟨Bx, 0, none⟩ = some (.string S) := by have := hcx 0 _ rfl; simpa using this
    have d1 : W'.cell? ⟨Bx, 1, none⟩ = some (.slice A0 n0 m0) := by have := hcx 1 _ rfl; simpa using this
    have x3 := (h2.2 _ _ _ (by omega) HS1.out.c).1
    have HC := Lib.hid (HCk.out xx xmem _ S A0 n0 m0 W' h3 (xrep.keepC h2))
    obtain ⟨v, hv⟩ : ∃ v, v = f xx := ⟨_, rfl⟩
    rw [← hv] at HC
    obtain ⟨y, hy⟩ : ∃ y : El (CnC (fun b => b ≠ w.heap.size + 1) W1) (· ∈ L), y = ⟨d, xx, _, xrep, xmem⟩ := ⟨_, rfl⟩
    have HSn : Hid (firstE f ((ps ++ [y]).map El.x) = v) := Lib.hid (by rw [hy, List.map_append, List.map_cons, List.map_nil, firstE_snoc _ _ _ h4, hv])
    have HB := Lib.hid h1
    have HK := Lib.hid h2
    have HW := Lib.hid h3
    have h1n : 1 ≤ 20 - 1 - 1 := by omega
    rw [← hy]
    clear hcx h1 h2 h3 h4 hv hy
    by_cases hq : v = 0
    · subst hq
      gi_wp2_with (refine ⟨trivial, ?_⟩; gi_at_call 43; refine (CallsIn.inRound l2 ((callsIn_wide).2 HC.out)).mono ?_; rintro r W3 ⟨rfl, hb⟩)
      have hg := grown_below hb none
      exact ⟨KeepsFrom.of_grownBy hg (fun j e => by cases e), KC.of_grown hg (fun _ _ => by simp), HB.out.kept hg (by simp), HK.out.trans (KC.of_grown hg (fun _ _ => by simp)), HW.out.grown hg HW.out.size (fun j e => by cases e), HSn.out⟩
    · have hqb : (v == 0) = false := beq_eq_false_iff_ne.2 hq
      gi_wp2_with (refine ⟨trivial, ?_⟩; gi_at_call 43; refine (CallsIn.inRound l2 ((callsIn_wide).2 HC.out)).mono ?_; rintro r W3 ⟨rfl, hb⟩; have HB3 := Lib.hid (HB.out.kept (grown_below hb none) (by simp)); have c4 := HB3.out.c; have f4 := HB3.out.fr 0)
      have hg := grown_below hb none
      have hg2 := grown_set W3 ⟨w.heap.size + 1, 0, none⟩ (.int .i64 v)
      exact ⟨(KeepsFrom.of_grownBy hg (fun j e => by cases e)).trans ((KeepsOthers.setCell W3 ⟨w.heap.size + 1, 0, none⟩ (.int .i64 v)).from _), (KC.of_grown hg (fun _ _ => by simp)).trans (KC.of_grown hg2 (fun b hb e => hb (Option.some.inj e))), rfl, v, HB3.out.set _, (HW.out.grown hg HW.out.size (fun j e => by cases e)).grown hg2 (Nat.le_trans HW.out.size hg.size) (fun k e => by have : w.heap.size + 1 = k := Option.some.inj e; omega), hq, HSn.out⟩
  case done =>
    rintro D ys W' hD hS ⟨h1, h2, h3, h4⟩ hKD
    have c4 := h1.c
    have f4 := h1.fr 0
    gi_wp2
    have hg := grown_set W' ⟨w.heap.size + 1, 0, none⟩ (.int .i64 0)
    have hKD' := (KeepsOthers.setCell W' ⟨w.heap.size + 1, 0, none⟩ (.int .i64 0)).same D _ hKD rfl
    have hB := h3.grown hg h3.size (fun k e => by have : w.heap.size + 1 = k := Option.some.inj e; omega)
    refine ⟨by simp, .inl ⟨_, _, rfl, run_takeDeferred hKD', ?_⟩⟩
    refine ⟨_, res_firstC rfl ((KC.putObj (P := fun _ => True) (.deferred none) hKD' rfl).2 _ _ _ trivial (h1.set (.int .i64 0)).c).1, ?_, hB.grown (grownBy_putObj' _ D (.deferred none)) hB.size (fun k e => by have : D = k := Option.some.inj e; omega)⟩
    rw [hS] at h4
    rw [h4]
  case stop =>
    rintro D c ps W' hD hSp ⟨rfl, v, h1, h3, hv, h4⟩ hKD
    gi_wp2
    refine ⟨by simp, .inl ⟨_, _, rfl, run_takeDeferred hKD, ?_⟩⟩
    refine ⟨_, res_firstC rfl ((KC.putObj (P := fun _ => True) (.deferred none) hKD rfl).2 _ _ _ trivial h1.c).1, ?_, h3.grown (grownBy_putObj' _ D (.deferred none)) h3.size (fun k e => by have : D = k := Option.some.inj e; omega)⟩
    obtain ⟨rest, hrest⟩ := hSp
    rw [← hrest, firstE_app, h4, if_neg hv]
/-- slices.All, made and called -/
theorem allOfC (A : Option Addr) (n c : Nat) (w : World) : Calls Tryz.prog 42 #[.slice A n c] w fun e w' => e = .returned (.func (.func 92) #[] #[.pointer (some ⟨w.heap.size, 0, none⟩)]) ∧ w' = w.alloc (.cells #[.slice A n c] 47) := by
  have hmf : ∀ (fn : Fn) (first cap : Array Value) (w : World), (Instr.makeFunc fn first cap).run Tryz.prog w = .ok (.func fn first cap) w := fun _ _ _ _ => rfl
  go_enter Tryz.func42, Tryz.ntmps42
  go_wp2_with fail
  go_ret
  exact ⟨rfl, rfl⟩
/-- the first error of a row -/
theorem firstRowC_any (f : Cn → Int) (A : Option Addr) (nl c : Nat) (L : List Cn) (P : Nat → Prop) (w : World) (hL : RowAt P w A 2 (CnC P w) L) (hnl : nl = L.length) (hlm : nl ≤ maxLen)
    (hck : ∀ x ∈ L, ∀ (P : Nat → Prop) (S : ByteArray) (A0 : Option Addr) (n0 m0 : Nat) (w' : World), Below w.heap.size w w' → CnC P w' x [.string S, .slice A0 n0 m0] → Calls Tryz.prog 43 #[.agg #[.string S, .slice A0 n0 m0]] w' fun r w2 => r = .returned (.int .i64 (f x)) ∧ Below w'.heap.size w' w2) :
    ∀ w1, Below w.heap.size w w1 → Calls Tryz.prog 41 #[.func (.func 92) #[] #[.pointer (some ⟨w1.heap.size, 0, none⟩)], .func (.func 43) #[] #[]] (w1.alloc (.cells #[.slice A nl c] 47)) fun r w' =>
      r = .returned (.int .i64 (firstE f L)) ∧ Below w1.heap.size w1 w' := fun w1 hb => by
  have hb2 := (Below.refl w1.heap.size w1).alloc (Nat.le_refl _) (.cells #[.slice A nl c] 47)
  have hb3 : Below w.heap.size w (w1.alloc (.cells #[.slice A nl c] 47)) := hb.trans (hb2.mono hb.size)
  have hk : KC P w (w1.alloc (.cells #[.slice A nl c] 47)) := KC.of_same hb3
  refine (firstErrRowC_any f w1.heap.size A nl c L _ (B1.new w1 _ _).c (by simp) ((hL.keepC hk (fun _ _ h => h.keepC hk)).tight (fun _ _ h => h.tight)) hnl hlm (fun x hx P' S A0 n0 m0 w2 hw2 hr => hck x hx P' S A0 n0 m0 w2 (hb3.trans (hw2.mono hb3.size)) hr)).mono ?_
  rintro r w' ⟨h1, h2⟩
  exact ⟨h1, hb2.trans (h2.mono (by simp))⟩
end Go.Proofs.YtbmicnajedeenaaGreatDoor
/- The program's first error of a list: Data. -/
namespace Go.Proofs.YtbmicnajedeenaaGreatDoor
open Go.RowKit Go.Shelf

attribute [local go_sem] Oper.semAt_some

theorem res_firstD {tmps : Array Value} {w : World} {g1 : Nat} {a : Int} (h2 : tmps.getD 4 undef = .pointer (some ⟨g1, 0, none⟩)) (c1 : w.cell? ⟨g1, 0, none⟩ = some (.int .i64 a)) :
    (results Tryz.f19 tmps).run Tryz.prog w = .ok (.int .i64 a) w := by
  have h2' : tmps[4]?.getD undef = .pointer (some ⟨g1, 0, none⟩) := by simpa using h2
  simp [results, Tryz.results19, go_sem, h2', c1]
set_option maxRecDepth 100000 in
set_option maxHeartbeats 4000000 in
theorem all_seqD (b1 : Nat) (P : Nat → Prop) (A : Option Addr) (nl c : Nat) (L : List Dt) (w : World) (hb1 : w.cell? ⟨b1, 0, none⟩ = some (.slice A nl c)) (hp1 : P b1) (hl : RowAt P w A 3 (DtC P w) L) (hnl : nl = L.length) (hlm : nl ≤ maxLen) :
    SeqX 19 38 #[.pointer (some ⟨b1, 0, none⟩)] (elx (R := DtC P w) (M := (· ∈ L))) P (fun ys => ys.map El.x = L) (fun ps => ps.map El.x <+: L) w := by
  intro l J Jx W hg hJ hJx hY h0
  have hc : KC P w W := KC.of_grown hg (fun _ _ => by simp)
  have HC5 : Hid (∀ wr, KC P W wr → wr.cell? ⟨b1, 0, none⟩ = some (.slice A nl c)) := fun wr h => ((hc.trans h).2 _ _ _ hp1 hb1).1
  have c5 := HC5.out W (KC.refl _ _)
  have HL := Lib.hid hl
  have HW := Lib.hid hc
  have HY := Lib.hid hY
  have HNL := Lib.hid hnl
  have HJ := Lib.hid hJ
  unfold maxLen at hlm
  clear hl hY hb1 hnl hg hJx hJ hc
  refine callsIn_of_wp Tryz.func38 rfl trivial ?_ rfl
  simp only [Tryz.ntmps38, List.size_toArray, List.length_cons, List.length_nil, Nat.reduceAdd, Nat.reduceSub, Array.replicate_succ, Array.replicate_zero, List.push_toArray, List.append_toArray, List.nil_append, List.cons_append]
  gi_wp2
  gi_loopw [7] (fun i wr => ∃ (k : Nat) (pre : List (El (DtC P w) (· ∈ L))), k ≤ nl ∧ i = .int .i64 (k : Int) ∧ Hid (pre.map El.x = L.take k) ∧ Hid (J pre wr) ∧ Hid (KC P W wr)) (fun i _ => nl - (intOf i).toNat)
  case atStart => exact ⟨0, [], Nat.zero_le _, rfl, Lib.hid (by simp), Lib.hid h0, Lib.hid (KC.refl _ _)⟩
  case round =>
    clear c5
    obtain ⟨j, pre, hk, rfl, hpre, hJs, hkc⟩ := hrel
    by_cases hkl : j < nl
    · have hkl' : j < L.length := by rw [← HNL.out]; exact hkl
      obtain ⟨b, off, rfl, hp, hlt, hr⟩ := HL.out (List.ne_nil_of_length_pos (by omega))
      obtain ⟨cs, hcl, hc, he⟩ := hr j _ (List.getElem?_eq_getElem hkl')
      obtain ⟨S, A0, n0, m0, A1, n1, m1, rfl⟩ := he.shape
      have HX := Lib.hid he
      have hcw := (hc.keepC hp HW.out).keepC hp hkc.out
      have c5 := HC5.out wr hkc.out
      have d0 := hcw 0 _ rfl
      have d1 := hcw 1 _ rfl
      have d2 := hcw 2 _ rfl
      rw [Nat.add_zero] at d0
      have i0 : (0 : Int) ≤ (j : Int) := by omega
      have i1 : (j : Int) < (nl : Int) := by omega
      have HTk : Hid (L.take (j + 1) = L.take j ++ [L[j]]) := Lib.hid (by rw [List.take_add_one, List.getElem?_eq_getElem hkl']; rfl)
      obtain ⟨fn, tmps, assign, body, hy, hR⟩ := HY.out pre ⟨j, L[j], _, he, List.getElem_mem hkl'⟩ (wr.alloc (.cells #[.string S, .slice A0 n0 m0, .slice A1 n1 m1] 49)) (HJ.out.alloc _ hJs.out)
      have HR := Lib.hid hR
      dsimp only [elx] at hy
      clear hcw hc hr hp hlt hR
      gi_wp2
      have HK1 : Hid (KC P W (wr.alloc (.cells #[.string S, .slice A0 n0 m0, .slice A1 n1 m1] 49))) := Lib.hid (hkc.out.trans (KC.alloc _ _ _))
      refine HR.out.mono ?_
      rintro e W3 (⟨rfl, hJ3, hk3, _⟩ | ⟨rfl, hJx3, _, _⟩)
      · have HJ3 := Lib.hid hJ3
        have HK3 := Lib.hid (HK1.out.trans hk3)
        clear hJ3 hk3
        gi_wp2
        go_roundw
        case rel => exact ⟨j + 1, pre ++ [⟨j, L[j], _, HX.out, List.getElem_mem hkl'⟩], by omega, by go_num, Lib.hid (by rw [HTk.out, List.map_append, hpre.out]; rfl), HJ3, HK3⟩
        case measure => simp [intOf]; omega
      · gi_wp2
        refine bodyPost_ret (results_none rfl _ _ _) rfl ?_
        exact ⟨⟨_, rfl⟩, .inr ⟨_, by
          rw [List.map_append, hpre.out]
          show L.take j ++ [L[j]] <+: L
          rw [← HTk.out]
          exact List.take_prefix _ _, hJx3⟩⟩
    · obtain rfl : j = nl := by omega
      have HALL : Hid (pre.map El.x = L) := Lib.hid (by have := hpre.out; rwa [HNL.out, List.take_length] at this)
      have c5 := HC5.out wr hkc.out
      gi_wp2
      go_end0
      exact ⟨⟨_, rfl⟩, .inl ⟨pre, HALL.out, hJs.out⟩⟩
set_option maxRecDepth 100000 in
set_option maxHeartbeats 4000000 in
theorem firstErrRowD_any (f : Dt → Int) (b1 : Nat) (A : Option Addr) (nl c : Nat) (L : List Dt) (w : World) (hb1 : w.cell? ⟨b1, 0, none⟩ = some (.slice A nl c)) (hl1 : b1 < w.heap.size)
    (hL : RowAt (fun b => b < w.heap.size) w A 3 (DtC (fun b => b < w.heap.size) w) L) (hnl : nl = L.length) (hlm : nl ≤ maxLen)
    (hck : ∀ x ∈ L, ∀ (P : Nat → Prop) (S : ByteArray) (A0 : Option Addr) (n0 m0 : Nat) (A1 : Option Addr) (n1 m1 : Nat) (w' : World), Below w.heap.size w w' → DtC P w' x [.string S, .slice A0 n0 m0, .slice A1 n1 m1] → Calls Tryz.prog 21 #[.agg #[.string S, .slice A0 n0 m0, .slice A1 n1 m1]] w' fun r w2 => r = .returned (.int .i64 (f x)) ∧ Below w'.heap.size w' w2) :
    Calls Tryz.prog 19 #[.func (.func 38) #[] #[.pointer (some ⟨b1, 0, none⟩)], .func (.func 21) #[] #[]] w fun r w' =>
      r = .returned (.int .i64 (firstE f L)) ∧ Below w.heap.size w w' := by
  obtain ⟨W1, hW1⟩ : ∃ W1, (w.alloc (.cells #[.func (.func 21) #[] #[]] 75)).alloc (.cells #[.int .i64 0] 35) = W1 := ⟨_, rfl⟩
  have hg1 : ∀ row, w.grownBy W1 row := fun row => by rw [← hW1]; exact grown_trans (World.grownBy_alloc _ _ _) (World.grownBy_alloc _ _ _)
  have hz1 : W1.heap.size = w.heap.size + 2 := by rw [← hW1]; simp
  have hc1 : KC (fun _ => True) w W1 := KC.of_grown (hg1 none) (fun _ _ => by simp)
  have hB1 : Below w.heap.size w W1 := by rw [← hW1]; exact ((Below.refl _ _).alloc (Nat.le_refl _) _).alloc (by simp) _
  have HS1 : Hid (B1 W1 w.heap.size 75 (.func (.func 21) #[] #[])) := by rw [← hW1]; exact (B1.new w _ _).kept (World.grownBy_alloc _ _ none) (by simp)
  have HS2 : Hid (B1 W1 (w.heap.size + 1) 35 (.int .i64 0)) := by
    rw [← hW1]
    have := B1.new (w.alloc (.cells #[.func (.func 21) #[] #[]] 75)) 35 (.int .i64 0)
    rwa [World.size_alloc] at this
  have hq : ∀ b, b < w.heap.size → b ≠ w.heap.size + 1 := fun b hb => by omega
  have hseq := all_seqD b1 (fun b => b ≠ w.heap.size + 1) A nl c L W1 ((hc1.2 _ _ _ trivial hb1).1) (by omega) ((hL.weaken hq (fun _ _ h => h.weaken hq)).keepC (KC.of_grown (hg1 none) (fun _ _ => by simp)) (fun _ _ h => h.keepC (KC.of_grown (hg1 none) (fun _ _ => by simp)))) hnl hlm
  have HSeq := Lib.hid hseq
  have HCk := Lib.hid hck
  clear hseq hb1 hL hc1 hlm hnl hck
  refine callsIn_wide (n := 20) |>.1 ?_
  refine callsIn_of_wp_marks Tryz.func19 rfl trivial ?_ rfl
  simp only [Tryz.ntmps19, List.size_toArray, List.length_cons, List.length_nil, Nat.reduceAdd, Nat.reduceSub, Array.replicate_succ, Array.replicate_zero, List.push_toArray, List.append_toArray, List.nil_append, List.cons_append]
  gi_wp2
  clear hW1
  refine range_x (n := 20) (by omega) (gf := 38) (lb := #[.pointer (some ⟨b1, 0, none⟩)]) rfl (enters_of Tryz.func38 (by kernel_rfl) rfl) HSeq.out (fun _ => rfl)
    (fun ps W' => B1 W' (w.heap.size + 1) 35 (.int .i64 0) ∧ KC (fun b => b ≠ w.heap.size + 1) W1 W' ∧ Below w.heap.size w W' ∧ firstE f (ps.map El.x) = 0)
    (fun c ps W' => c = .ret ∧ ∃ v : Int, B1 W' (w.heap.size + 1) 35 (.int .i64 v) ∧ Below w.heap.size w W' ∧ v ≠ 0 ∧ firstE f (ps.map El.x) = v)
    ?hI ?hIx ?h0 (fun x a' W' => ∃ Bx, W1.heap.size ≤ Bx ∧ CellsAt W' Bx 0 x.cs ∧ a' = { tmps := #[.func (.func 38) #[] #[.pointer (some ⟨b1, 0, none⟩)], .func (.func 21) #[] #[], undef, .pointer (some ⟨w.heap.size, 0, none⟩), .pointer (some ⟨w.heap.size + 1, 0, none⟩), undef, .pointer (some ⟨Bx, 0, none⟩), undef,
      .func (.func 38) #[] #[.pointer (some ⟨b1, 0, none⟩)], .int .i64 x.i, .agg x.cs.toArray, undef, undef, undef, undef, undef, undef], defers := [] })
    ?hAx ?assign ?body ?done ?stop
  case hI =>
    rintro ps A A' row ⟨h1, h2, h3, h4⟩ hg hr
    exact ⟨h1.kept hg (fun e => by have := hr _ e.symm; omega), h2.own hg (fun r e => hr r e), h3.grown hg h3.size (fun k e => by have := hr _ e; omega), h4⟩
  case hIx =>
    rintro c ps A A' row ⟨hc, v, h1, h3, h4⟩ hg hr
    exact ⟨hc, v, h1.kept hg (fun e => by have := hr _ e.symm; omega), h3.grown hg h3.size (fun k e => by have := hr _ e; omega), h4⟩
  case h0 => exact ⟨HS2.out, KC.refl _ _, hB1, rfl⟩
  case hAx =>
    intro x a'
    right
    rintro A l2 o o' ⟨Bx, h1, h2, h3⟩ hl ho
    exact ⟨Bx, h1, CellsAt.keepC (P := fun _ => True) h2 trivial (KC.putObj o' hl ho), h3⟩
  case assign =>
    rintro l2 ps ⟨d, xx, xcs, xrep, xmem⟩ W' K ⟨h1, h2, h3, h4⟩ hz hK
    obtain ⟨S, A0, n0, m0, A1, n1, m1, rfl⟩ := xrep.shape
    unfold elx
    gi_wp2
    exact hK _ _ (KeepsFrom.of_grownBy (World.grownBy_alloc W' _ none) (fun j e => by cases e)) (KC.alloc _ _ _) ⟨h1.kept (World.grownBy_alloc _ _ none) (by simp), h2.trans (KC.alloc _ _ _), h3.alloc h3.size _, h4⟩ ⟨W'.heap.size, hz, cellsAt_new _ _ _, rfl⟩
  case body =>
    rintro l2 ps ⟨d, xx, xcs, xrep, xmem⟩ a' W' hl2 ⟨rr, hrr⟩ ⟨h1, h2, h3, h4⟩ ⟨Bx, hBx, hcx, rfl⟩
    obtain ⟨S, A0, n0, m0, A1, n1, m1, rfl⟩ := xrep.shape
    have d0 : W'.cell? ⟨Bx, 0, none⟩ = some (.string S) := by have := hcx 0 _ rfl; simpa using this
    have d1 : W'.cell? ⟨Bx, 1, none⟩ = some (.slice A0 n0 m0) := by have := hcx 1 _ rfl; simpa using this
    have d2 : W'.cell? ⟨Bx, 2, none⟩ = some (.slice A1 n1 m1) := by have := hcx 2 _ rfl; simpa using this
    have x3 := (h2.2 _ _ _ (by omega) HS1.out.c).1
    have HC := Lib.hid (HCk.out xx xmem _ S A0 n0 m0 A1 n1 m1 W' h3 (xrep.keepC h2))
    obtain ⟨v, hv⟩ : ∃ v, v = f xx := ⟨_, rfl⟩
    rw [← hv] at HC
    obtain ⟨y, hy⟩ : ∃ y : El (DtC (fun b => b ≠ w.heap.size + 1) W1) (· ∈ L), y = ⟨d, xx, _, xrep, xmem⟩ := ⟨_, rfl⟩
    have HSn : Hid (firstE f ((ps ++ [y]).map El.x) = v) := Lib.hid (by rw [hy, List.map_append, List.map_cons, List.map_nil, firstE_snoc _ _ _ h4, hv])
    have HB := Lib.hid h1
    have HK := Lib.hid h2
    have HW := Lib.hid h3
    have h1n : 1 ≤ 20 - 1 - 1 := by omega
    rw [← hy]
    clear hcx h1 h2 h3 h4 hv hy
    by_cases hq : v = 0
    · subst hq
      gi_wp2_with (refine ⟨trivial, ?_⟩; gi_at_call 21; refine (CallsIn.inRound l2 ((callsIn_wide).2 HC.out)).mono ?_; rintro r W3 ⟨rfl, hb⟩)
      have hg := grown_below hb none
      exact ⟨KeepsFrom.of_grownBy hg (fun j e => by cases e), KC.of_grown hg (fun _ _ => by simp), HB.out.kept hg (by simp), HK.out.trans (KC.of_grown hg (fun _ _ => by simp)), HW.out.grown hg HW.out.size (fun j e => by cases e), HSn.out⟩
    · have hqb : (v == 0) = false := beq_eq_false_iff_ne.2 hq
      gi_wp2_with (refine ⟨trivial, ?_⟩; gi_at_call 21; refine (CallsIn.inRound l2 ((callsIn_wide).2 HC.out)).mono ?_; rintro r W3 ⟨rfl, hb⟩; have HB3 := Lib.hid (HB.out.kept (grown_below hb none) (by simp)); have c4 := HB3.out.c; have f4 := HB3.out.fr 0)
      have hg := grown_below hb none
      have hg2 := grown_set W3 ⟨w.heap.size + 1, 0, none⟩ (.int .i64 v)
      exact ⟨(KeepsFrom.of_grownBy hg (fun j e => by cases e)).trans ((KeepsOthers.setCell W3 ⟨w.heap.size + 1, 0, none⟩ (.int .i64 v)).from _), (KC.of_grown hg (fun _ _ => by simp)).trans (KC.of_grown hg2 (fun b hb e => hb (Option.some.inj e))), rfl, v, HB3.out.set _, (HW.out.grown hg HW.out.size (fun j e => by cases e)).grown hg2 (Nat.le_trans HW.out.size hg.size) (fun k e => by have : w.heap.size + 1 = k := Option.some.inj e; omega), hq, HSn.out⟩
  case done =>
    rintro D ys W' hD hS ⟨h1, h2, h3, h4⟩ hKD
    have c4 := h1.c
    have f4 := h1.fr 0
    gi_wp2
    have hg := grown_set W' ⟨w.heap.size + 1, 0, none⟩ (.int .i64 0)
    have hKD' := (KeepsOthers.setCell W' ⟨w.heap.size + 1, 0, none⟩ (.int .i64 0)).same D _ hKD rfl
    have hB := h3.grown hg h3.size (fun k e => by have : w.heap.size + 1 = k := Option.some.inj e; omega)
    refine ⟨by simp, .inl ⟨_, _, rfl, run_takeDeferred hKD', ?_⟩⟩
    refine ⟨_, res_firstD rfl ((KC.putObj (P := fun _ => True) (.deferred none) hKD' rfl).2 _ _ _ trivial (h1.set (.int .i64 0)).c).1, ?_, hB.grown (grownBy_putObj' _ D (.deferred none)) hB.size (fun k e => by have : D = k := Option.some.inj e; omega)⟩
    rw [hS] at h4
    rw [h4]
  case stop =>
    rintro D c ps W' hD hSp ⟨rfl, v, h1, h3, hv, h4⟩ hKD
    gi_wp2
    refine ⟨by simp, .inl ⟨_, _, rfl, run_takeDeferred hKD, ?_⟩⟩
    refine ⟨_, res_firstD rfl ((KC.putObj (P := fun _ => True) (.deferred none) hKD rfl).2 _ _ _ trivial h1.c).1, ?_, h3.grown (grownBy_putObj' _ D (.deferred none)) h3.size (fun k e => by have : D = k := Option.some.inj e; omega)⟩
    obtain ⟨rest, hrest⟩ := hSp
    rw [← hrest, firstE_app, h4, if_neg hv]
/-- slices.All, made and called -/
theorem allOfD (A : Option Addr) (n c : Nat) (w : World) : Calls Tryz.prog 20 #[.slice A n c] w fun e w' => e = .returned (.func (.func 38) #[] #[.pointer (some ⟨w.heap.size, 0, none⟩)]) ∧ w' = w.alloc (.cells #[.slice A n c] 22) := by
  have hmf : ∀ (fn : Fn) (first cap : Array Value) (w : World), (Instr.makeFunc fn first cap).run Tryz.prog w = .ok (.func fn first cap) w := fun _ _ _ _ => rfl
  go_enter Tryz.func20, Tryz.ntmps20
  go_wp2_with fail
  go_ret
  exact ⟨rfl, rfl⟩
/-- the first error of a row -/
theorem firstRowD_any (f : Dt → Int) (A : Option Addr) (nl c : Nat) (L : List Dt) (P : Nat → Prop) (w : World) (hL : RowAt P w A 3 (DtC P w) L) (hnl : nl = L.length) (hlm : nl ≤ maxLen)
    (hck : ∀ x ∈ L, ∀ (P : Nat → Prop) (S : ByteArray) (A0 : Option Addr) (n0 m0 : Nat) (A1 : Option Addr) (n1 m1 : Nat) (w' : World), Below w.heap.size w w' → DtC P w' x [.string S, .slice A0 n0 m0, .slice A1 n1 m1] → Calls Tryz.prog 21 #[.agg #[.string S, .slice A0 n0 m0, .slice A1 n1 m1]] w' fun r w2 => r = .returned (.int .i64 (f x)) ∧ Below w'.heap.size w' w2) :
    ∀ w1, Below w.heap.size w w1 → Calls Tryz.prog 19 #[.func (.func 38) #[] #[.pointer (some ⟨w1.heap.size, 0, none⟩)], .func (.func 21) #[] #[]] (w1.alloc (.cells #[.slice A nl c] 22)) fun r w' =>
      r = .returned (.int .i64 (firstE f L)) ∧ Below w1.heap.size w1 w' := fun w1 hb => by
  have hb2 := (Below.refl w1.heap.size w1).alloc (Nat.le_refl _) (.cells #[.slice A nl c] 22)
  have hb3 : Below w.heap.size w (w1.alloc (.cells #[.slice A nl c] 22)) := hb.trans (hb2.mono hb.size)
  have hk : KC P w (w1.alloc (.cells #[.slice A nl c] 22)) := KC.of_same hb3
  refine (firstErrRowD_any f w1.heap.size A nl c L _ (B1.new w1 _ _).c (by simp) ((hL.keepC hk (fun _ _ h => h.keepC hk)).tight (fun _ _ h => h.tight)) hnl hlm (fun x hx P' S A0 n0 m0 A1 n1 m1 w2 hw2 hr => hck x hx P' S A0 n0 m0 A1 n1 m1 w2 (hb3.trans (hw2.mono hb3.size)) hr)).mono ?_
  rintro r w' ⟨h1, h2⟩
  exact ⟨h1, hb2.trans (h2.mono (by simp))⟩
end Go.Proofs.YtbmicnajedeenaaGreatDoor
/- The program's first error of a list: Effect. -/
namespace Go.Proofs.YtbmicnajedeenaaGreatDoor
open Go.RowKit Go.Shelf

attribute [local go_sem] Oper.semAt_some

theorem res_firstE {tmps : Array Value} {w : World} {g1 : Nat} {a : Int} (h2 : tmps.getD 4 undef = .pointer (some ⟨g1, 0, none⟩)) (c1 : w.cell? ⟨g1, 0, none⟩ = some (.int .i64 a)) :
    (results Tryz.f22 tmps).run Tryz.prog w = .ok (.int .i64 a) w := by
  have h2' : tmps[4]?.getD undef = .pointer (some ⟨g1, 0, none⟩) := by simpa using h2
  simp [results, Tryz.results22, go_sem, h2', c1]
set_option maxRecDepth 100000 in
set_option maxHeartbeats 4000000 in
theorem all_seqE (b1 : Nat) (P : Nat → Prop) (A : Option Addr) (nl c : Nat) (L : List Ef) (w : World) (hb1 : w.cell? ⟨b1, 0, none⟩ = some (.slice A nl c)) (hp1 : P b1) (hl : RowAt P w A 2 (EfC P w) L) (hnl : nl = L.length) (hlm : nl ≤ maxLen) :
    SeqX 19 44 #[.pointer (some ⟨b1, 0, none⟩)] (elx (R := EfC P w) (M := (· ∈ L))) P (fun ys => ys.map El.x = L) (fun ps => ps.map El.x <+: L) w := by
  intro l J Jx W hg hJ hJx hY h0
  have hc : KC P w W := KC.of_grown hg (fun _ _ => by simp)
  have HC5 : Hid (∀ wr, KC P W wr → wr.cell? ⟨b1, 0, none⟩ = some (.slice A nl c)) := fun wr h => ((hc.trans h).2 _ _ _ hp1 hb1).1
  have c5 := HC5.out W (KC.refl _ _)
  have HL := Lib.hid hl
  have HW := Lib.hid hc
  have HY := Lib.hid hY
  have HNL := Lib.hid hnl
  have HJ := Lib.hid hJ
  unfold maxLen at hlm
  clear hl hY hb1 hnl hg hJx hJ hc
  refine callsIn_of_wp Tryz.func44 rfl trivial ?_ rfl
  simp only [Tryz.ntmps44, List.size_toArray, List.length_cons, List.length_nil, Nat.reduceAdd, Nat.reduceSub, Array.replicate_succ, Array.replicate_zero, List.push_toArray, List.append_toArray, List.nil_append, List.cons_append]
  gi_wp2
  gi_loopw [7] (fun i wr => ∃ (k : Nat) (pre : List (El (EfC P w) (· ∈ L))), k ≤ nl ∧ i = .int .i64 (k : Int) ∧ Hid (pre.map El.x = L.take k) ∧ Hid (J pre wr) ∧ Hid (KC P W wr)) (fun i _ => nl - (intOf i).toNat)
  case atStart => exact ⟨0, [], Nat.zero_le _, rfl, Lib.hid (by simp), Lib.hid h0, Lib.hid (KC.refl _ _)⟩
  case round =>
    clear c5
    obtain ⟨j, pre, hk, rfl, hpre, hJs, hkc⟩ := hrel
    by_cases hkl : j < nl
    · have hkl' : j < L.length := by rw [← HNL.out]; exact hkl
      obtain ⟨b, off, rfl, hp, hlt, hr⟩ := HL.out (List.ne_nil_of_length_pos (by omega))
      obtain ⟨cs, hcl, hc, he⟩ := hr j _ (List.getElem?_eq_getElem hkl')
      obtain ⟨S, A0, n0, m0, rfl⟩ := he.shape
      have HX := Lib.hid he
      have hcw := (hc.keepC hp HW.out).keepC hp hkc.out
      have c5 := HC5.out wr hkc.out
      have d0 := hcw 0 _ rfl
      have d1 := hcw 1 _ rfl
      rw [Nat.add_zero] at d0
      have i0 : (0 : Int) ≤ (j : Int) := by omega
      have i1 : (j : Int) < (nl : Int) := by omega
      have HTk : Hid (L.take (j + 1) = L.take j ++ [L[j]]) := Lib.hid (by rw [List.take_add_one, List.getElem?_eq_getElem hkl']; rfl)
      obtain ⟨fn, tmps, assign, body, hy, hR⟩ := HY.out pre ⟨j, L[j], _, he, List.getElem_mem hkl'⟩ (wr.alloc (.cells #[.string S, .slice A0 n0 m0] 57)) (HJ.out.alloc _ hJs.out)
      have HR := Lib.hid hR
      dsimp only [elx] at hy
      clear hcw hc hr hp hlt hR
      gi_wp2
      have HK1 : Hid (KC P W (wr.alloc (.cells #[.string S, .slice A0 n0 m0] 57))) := Lib.hid (hkc.out.trans (KC.alloc _ _ _))
      refine HR.out.mono ?_
      rintro e W3 (⟨rfl, hJ3, hk3, _⟩ | ⟨rfl, hJx3, _, _⟩)
      · have HJ3 := Lib.hid hJ3
        have HK3 := Lib.hid (HK1.out.trans hk3)
        clear hJ3 hk3
        gi_wp2
        go_roundw
        case rel => exact ⟨j + 1, pre ++ [⟨j, L[j], _, HX.out, List.getElem_mem hkl'⟩], by omega, by go_num, Lib.hid (by rw [HTk.out, List.map_append, hpre.out]; rfl), HJ3, HK3⟩
        case measure => simp [intOf]; omega
      · gi_wp2
        refine bodyPost_ret (results_none rfl _ _ _) rfl ?_
        exact ⟨⟨_, rfl⟩, .inr ⟨_, by
          rw [List.map_append, hpre.out]
          show L.take j ++ [L[j]] <+: L
          rw [← HTk.out]
          exact List.take_prefix _ _, hJx3⟩⟩
    · obtain rfl : j = nl := by omega
      have HALL : Hid (pre.map El.x = L) := Lib.hid (by have := hpre.out; rwa [HNL.out, List.take_length] at this)
      have c5 := HC5.out wr hkc.out
      gi_wp2
      go_end0
      exact ⟨⟨_, rfl⟩, .inl ⟨pre, HALL.out, hJs.out⟩⟩
set_option maxRecDepth 100000 in
set_option maxHeartbeats 4000000 in
theorem firstErrRowE_any (f : Ef → Int) (b1 : Nat) (A : Option Addr) (nl c : Nat) (L : List Ef) (w : World) (hb1 : w.cell? ⟨b1, 0, none⟩ = some (.slice A nl c)) (hl1 : b1 < w.heap.size)
    (hL : RowAt (fun b => b < w.heap.size) w A 2 (EfC (fun b => b < w.heap.size) w) L) (hnl : nl = L.length) (hlm : nl ≤ maxLen)
    (hck : ∀ x ∈ L, ∀ (P : Nat → Prop) (S : ByteArray) (A0 : Option Addr) (n0 m0 : Nat) (w' : World), Below w.heap.size w w' → EfC P w' x [.string S, .slice A0 n0 m0] → Calls Tryz.prog 24 #[.agg #[.string S, .slice A0 n0 m0]] w' fun r w2 => r = .returned (.int .i64 (f x)) ∧ Below w'.heap.size w' w2) :
    Calls Tryz.prog 22 #[.func (.func 44) #[] #[.pointer (some ⟨b1, 0, none⟩)], .func (.func 24) #[] #[]] w fun r w' =>
      r = .returned (.int .i64 (firstE f L)) ∧ Below w.heap.size w w' := by
  obtain ⟨W1, hW1⟩ : ∃ W1, (w.alloc (.cells #[.func (.func 24) #[] #[]] 80)).alloc (.cells #[.int .i64 0] 35) = W1 := ⟨_, rfl⟩
  have hg1 : ∀ row, w.grownBy W1 row := fun row => by rw [← hW1]; exact grown_trans (World.grownBy_alloc _ _ _) (World.grownBy_alloc _ _ _)
  have hz1 : W1.heap.size = w.heap.size + 2 := by rw [← hW1]; simp
  have hc1 : KC (fun _ => True) w W1 := KC.of_grown (hg1 none) (fun _ _ => by simp)
  have hB1 : Below w.heap.size w W1 := by rw [← hW1]; exact ((Below.refl _ _).alloc (Nat.le_refl _) _).alloc (by simp) _
  have HS1 : Hid (B1 W1 w.heap.size 80 (.func (.func 24) #[] #[])) := by rw [← hW1]; exact (B1.new w _ _).kept (World.grownBy_alloc _ _ none) (by simp)
  have HS2 : Hid (B1 W1 (w.heap.size + 1) 35 (.int .i64 0)) := by
    rw [← hW1]
    have := B1.new (w.alloc (.cells #[.func (.func 24) #[] #[]] 80)) 35 (.int .i64 0)
    rwa [World.size_alloc] at this
  have hq : ∀ b, b < w.heap.size → b ≠ w.heap.size + 1 := fun b hb => by omega
  have hseq := all_seqE b1 (fun b => b ≠ w.heap.size + 1) A nl c L W1 ((hc1.2 _ _ _ trivial hb1).1) (by omega) ((hL.weaken hq (fun _ _ h => h.weaken hq)).keepC (KC.of_grown (hg1 none) (fun _ _ => by simp)) (fun _ _ h => h.keepC (KC.of_grown (hg1 none) (fun _ _ => by simp)))) hnl hlm
  have HSeq := Lib.hid hseq
  have HCk := Lib.hid hck
  clear hseq hb1 hL hc1 hlm hnl hck
  refine callsIn_wide (n := 20) |>.1 ?_
  refine callsIn_of_wp_marks Tryz.func22 rfl trivial ?_ rfl
  simp only [Tryz.ntmps22, List.size_toArray, List.length_cons, List.length_nil, Nat.reduceAdd, Nat.reduceSub, Array.replicate_succ, Array.replicate_zero, List.push_toArray, List.append_toArray, List.nil_append, List.cons_append]
  gi_wp2
  clear hW1
  refine range_x (n := 20) (by omega) (gf := 44) (lb := #[.pointer (some ⟨b1, 0, none⟩)]) rfl (enters_of Tryz.func44 (by kernel_rfl) rfl) HSeq.out (fun _ => rfl)
    (fun ps W' => B1 W' (w.heap.size + 1) 35 (.int .i64 0) ∧ KC (fun b => b ≠ w.heap.size + 1) W1 W' ∧ Below w.heap.size w W' ∧ firstE f (ps.map El.x) = 0)
    (fun c ps W' => c = .ret ∧ ∃ v : Int, B1 W' (w.heap.size + 1) 35 (.int .i64 v) ∧ Below w.heap.size w W' ∧ v ≠ 0 ∧ firstE f (ps.map El.x) = v)
    ?hI ?hIx ?h0 (fun x a' W' => ∃ Bx, W1.heap.size ≤ Bx ∧ CellsAt W' Bx 0 x.cs ∧ a' = { tmps := #[.func (.func 44) #[] #[.pointer (some ⟨b1, 0, none⟩)], .func (.func 24) #[] #[], undef, .pointer (some ⟨w.heap.size, 0, none⟩), .pointer (some ⟨w.heap.size + 1, 0, none⟩), undef, .pointer (some ⟨Bx, 0, none⟩), undef,
      .func (.func 44) #[] #[.pointer (some ⟨b1, 0, none⟩)], .int .i64 x.i, .agg x.cs.toArray, undef, undef, undef, undef, undef, undef], defers := [] })
    ?hAx ?assign ?body ?done ?stop
  case hI =>
    rintro ps A A' row ⟨h1, h2, h3, h4⟩ hg hr
    exact ⟨h1.kept hg (fun e => by have := hr _ e.symm; omega), h2.own hg (fun r e => hr r e), h3.grown hg h3.size (fun k e => by have := hr _ e; omega), h4⟩
  case hIx =>
    rintro c ps A A' row ⟨hc, v, h1, h3, h4⟩ hg hr
    exact ⟨hc, v, h1.kept hg (fun e => by have := hr _ e.symm; omega), h3.grown hg h3.size (fun k e => by have := hr _ e; omega), h4⟩
  case h0 => exact ⟨HS2.out, KC.refl _ _, hB1, rfl⟩
  case hAx =>
    intro x a'
    right
    rintro A l2 o o' ⟨Bx, h1, h2, h3⟩ hl ho
    exact ⟨Bx, h1, CellsAt.keepC (P := fun _ => True) h2 trivial (KC.putObj o' hl ho), h3⟩
  case assign =>
    rintro l2 ps ⟨d, xx, xcs, xrep, xmem⟩ W' K ⟨h1, h2, h3, h4⟩ hz hK
    obtain ⟨S, A0, n0, m0, rfl⟩ := xrep.shape
    unfold elx
    gi_wp2
    exact hK _ _ (KeepsFrom.of_grownBy (World.grownBy_alloc W' _ none) (fun j e => by cases e)) (KC.alloc _ _ _) ⟨h1.kept (World.grownBy_alloc _ _ none) (by simp), h2.trans (KC.alloc _ _ _), h3.alloc h3.size _, h4⟩ ⟨W'.heap.size, hz, cellsAt_new _ _ _, rfl⟩
  case body =>
    rintro l2 ps ⟨d, xx, xcs, xrep, xmem⟩ a' W' hl2 ⟨rr, hrr⟩ ⟨h1, h2, h3, h4⟩ ⟨Bx, hBx, hcx, rfl⟩
    obtain ⟨S, A0, n0, m0, rfl⟩ := xrep.shape
    have d0 : W'.cell? ⟨Bx, 0, none⟩ = some (.string S) := by have := hcx 0 _ rfl; simpa using this
    have d1 : W'.cell? ⟨Bx, 1, none⟩ = some (.slice A0 n0 m0) := by have := hcx 1 _ rfl; simpa using this
    have x3 := (h2.2 _ _ _ (by omega) HS1.out.c).1
    have HC := Lib.hid (HCk.out xx xmem _ S A0 n0 m0 W' h3 (xrep.keepC h2))
    obtain ⟨v, hv⟩ : ∃ v, v = f xx := ⟨_, rfl⟩
    rw [← hv] at HC
    obtain ⟨y, hy⟩ : ∃ y : El (EfC (fun b => b ≠ w.heap.size + 1) W1) (· ∈ L), y = ⟨d, xx, _, xrep, xmem⟩ := ⟨_, rfl⟩
    have HSn : Hid (firstE f ((ps ++ [y]).map El.x) = v) := Lib.hid (by rw [hy, List.map_append, List.map_cons, List.map_nil, firstE_snoc _ _ _ h4, hv])
    have HB := Lib.hid h1
    have HK := Lib.hid h2
    have HW := Lib.hid h3
    have h1n : 1 ≤ 20 - 1 - 1 := by omega
    rw [← hy]
    clear hcx h1 h2 h3 h4 hv hy
    by_cases hq : v = 0
    · subst hq
      gi_wp2_with (refine ⟨trivial, ?_⟩; gi_at_call 24; refine (CallsIn.inRound l2 ((callsIn_wide).2 HC.out)).mono ?_; rintro r W3 ⟨rfl, hb⟩)
      have hg := grown_below hb none
      exact ⟨KeepsFrom.of_grownBy hg (fun j e => by cases e), KC.of_grown hg (fun _ _ => by simp), HB.out.kept hg (by simp), HK.out.trans (KC.of_grown hg (fun _ _ => by simp)), HW.out.grown hg HW.out.size (fun j e => by cases e), HSn.out⟩
    · have hqb : (v == 0) = false := beq_eq_false_iff_ne.2 hq
      gi_wp2_with (refine ⟨trivial, ?_⟩; gi_at_call 24; refine (CallsIn.inRound l2 ((callsIn_wide).2 HC.out)).mono ?_; rintro r W3 ⟨rfl, hb⟩; have HB3 := Lib.hid (HB.out.kept (grown_below hb none) (by simp)); have c4 := HB3.out.c; have f4 := HB3.out.fr 0)
      have hg := grown_below hb none
      have hg2 := grown_set W3 ⟨w.heap.size + 1, 0, none⟩ (.int .i64 v)
      exact ⟨(KeepsFrom.of_grownBy hg (fun j e => by cases e)).trans ((KeepsOthers.setCell W3 ⟨w.heap.size + 1, 0, none⟩ (.int .i64 v)).from _), (KC.of_grown hg (fun _ _ => by simp)).trans (KC.of_grown hg2 (fun b hb e => hb (Option.some.inj e))), rfl, v, HB3.out.set _, (HW.out.grown hg HW.out.size (fun j e => by cases e)).grown hg2 (Nat.le_trans HW.out.size hg.size) (fun k e => by have : w.heap.size + 1 = k := Option.some.inj e; omega), hq, HSn.out⟩
  case done =>
    rintro D ys W' hD hS ⟨h1, h2, h3, h4⟩ hKD
    have c4 := h1.c
    have f4 := h1.fr 0
    gi_wp2
    have hg := grown_set W' ⟨w.heap.size + 1, 0, none⟩ (.int .i64 0)
    have hKD' := (KeepsOthers.setCell W' ⟨w.heap.size + 1, 0, none⟩ (.int .i64 0)).same D _ hKD rfl
    have hB := h3.grown hg h3.size (fun k e => by have : w.heap.size + 1 = k := Option.some.inj e; omega)
    refine ⟨by simp, .inl ⟨_, _, rfl, run_takeDeferred hKD', ?_⟩⟩
    refine ⟨_, res_firstE rfl ((KC.putObj (P := fun _ => True) (.deferred none) hKD' rfl).2 _ _ _ trivial (h1.set (.int .i64 0)).c).1, ?_, hB.grown (grownBy_putObj' _ D (.deferred none)) hB.size (fun k e => by have : D = k := Option.some.inj e; omega)⟩
    rw [hS] at h4
    rw [h4]
  case stop =>
    rintro D c ps W' hD hSp ⟨rfl, v, h1, h3, hv, h4⟩ hKD
    gi_wp2
    refine ⟨by simp, .inl ⟨_, _, rfl, run_takeDeferred hKD, ?_⟩⟩
    refine ⟨_, res_firstE rfl ((KC.putObj (P := fun _ => True) (.deferred none) hKD rfl).2 _ _ _ trivial h1.c).1, ?_, h3.grown (grownBy_putObj' _ D (.deferred none)) h3.size (fun k e => by have : D = k := Option.some.inj e; omega)⟩
    obtain ⟨rest, hrest⟩ := hSp
    rw [← hrest, firstE_app, h4, if_neg hv]
/-- slices.All, made and called -/
theorem allOfE (A : Option Addr) (n c : Nat) (w : World) : Calls Tryz.prog 23 #[.slice A n c] w fun e w' => e = .returned (.func (.func 44) #[] #[.pointer (some ⟨w.heap.size, 0, none⟩)]) ∧ w' = w.alloc (.cells #[.slice A n c] 23) := by
  have hmf : ∀ (fn : Fn) (first cap : Array Value) (w : World), (Instr.makeFunc fn first cap).run Tryz.prog w = .ok (.func fn first cap) w := fun _ _ _ _ => rfl
  go_enter Tryz.func23, Tryz.ntmps23
  go_wp2_with fail
  go_ret
  exact ⟨rfl, rfl⟩
/-- the first error of a row -/
theorem firstRowE_any (f : Ef → Int) (A : Option Addr) (nl c : Nat) (L : List Ef) (P : Nat → Prop) (w : World) (hL : RowAt P w A 2 (EfC P w) L) (hnl : nl = L.length) (hlm : nl ≤ maxLen)
    (hck : ∀ x ∈ L, ∀ (P : Nat → Prop) (S : ByteArray) (A0 : Option Addr) (n0 m0 : Nat) (w' : World), Below w.heap.size w w' → EfC P w' x [.string S, .slice A0 n0 m0] → Calls Tryz.prog 24 #[.agg #[.string S, .slice A0 n0 m0]] w' fun r w2 => r = .returned (.int .i64 (f x)) ∧ Below w'.heap.size w' w2) :
    ∀ w1, Below w.heap.size w w1 → Calls Tryz.prog 22 #[.func (.func 44) #[] #[.pointer (some ⟨w1.heap.size, 0, none⟩)], .func (.func 24) #[] #[]] (w1.alloc (.cells #[.slice A nl c] 23)) fun r w' =>
      r = .returned (.int .i64 (firstE f L)) ∧ Below w1.heap.size w1 w' := fun w1 hb => by
  have hb2 := (Below.refl w1.heap.size w1).alloc (Nat.le_refl _) (.cells #[.slice A nl c] 23)
  have hb3 : Below w.heap.size w (w1.alloc (.cells #[.slice A nl c] 23)) := hb.trans (hb2.mono hb.size)
  have hk : KC P w (w1.alloc (.cells #[.slice A nl c] 23)) := KC.of_same hb3
  refine (firstErrRowE_any f w1.heap.size A nl c L _ (B1.new w1 _ _).c (by simp) ((hL.keepC hk (fun _ _ h => h.keepC hk)).tight (fun _ _ h => h.tight)) hnl hlm (fun x hx P' S A0 n0 m0 w2 hw2 hr => hck x hx P' S A0 n0 m0 w2 (hb3.trans (hw2.mono hb3.size)) hr)).mono ?_
  rintro r w' ⟨h1, h2⟩
  exact ⟨h1, hb2.trans (h2.mono (by simp))⟩
end Go.Proofs.YtbmicnajedeenaaGreatDoor
/- The program's first error of a list: Op. -/
namespace Go.Proofs.YtbmicnajedeenaaGreatDoor
open Go.RowKit Go.Shelf

attribute [local go_sem] Oper.semAt_some

theorem res_firstO {tmps : Array Value} {w : World} {g1 : Nat} {a : Int} (h2 : tmps.getD 4 undef = .pointer (some ⟨g1, 0, none⟩)) (c1 : w.cell? ⟨g1, 0, none⟩ = some (.int .i64 a)) :
    (results Tryz.f45 tmps).run Tryz.prog w = .ok (.int .i64 a) w := by
  have h2' : tmps[4]?.getD undef = .pointer (some ⟨g1, 0, none⟩) := by simpa using h2
  simp [results, Tryz.results45, go_sem, h2', c1]
set_option maxRecDepth 100000 in
set_option maxHeartbeats 4000000 in
theorem all_seqO (b1 : Nat) (P : Nat → Prop) (A : Option Addr) (nl c : Nat) (L : List Opn) (w : World) (hb1 : w.cell? ⟨b1, 0, none⟩ = some (.slice A nl c)) (hp1 : P b1) (hl : RowAt P w A 14 (OpC P w) L) (hnl : nl = L.length) (hlm : nl ≤ maxLen) :
    SeqX 19 96 #[.pointer (some ⟨b1, 0, none⟩)] (elx (R := OpC P w) (M := (· ∈ L))) P (fun ys => ys.map El.x = L) (fun ps => ps.map El.x <+: L) w := by
  intro l J Jx W hg hJ hJx hY h0
  have hc : KC P w W := KC.of_grown hg (fun _ _ => by simp)
  have HC5 : Hid (∀ wr, KC P W wr → wr.cell? ⟨b1, 0, none⟩ = some (.slice A nl c)) := fun wr h => ((hc.trans h).2 _ _ _ hp1 hb1).1
  have c5 := HC5.out W (KC.refl _ _)
  have HL := Lib.hid hl
  have HW := Lib.hid hc
  have HY := Lib.hid hY
  have HNL := Lib.hid hnl
  have HJ := Lib.hid hJ
  unfold maxLen at hlm
  clear hl hY hb1 hnl hg hJx hJ hc
  refine callsIn_of_wp Tryz.func96 rfl trivial ?_ rfl
  simp only [Tryz.ntmps96, List.size_toArray, List.length_cons, List.length_nil, Nat.reduceAdd, Nat.reduceSub, Array.replicate_succ, Array.replicate_zero, List.push_toArray, List.append_toArray, List.nil_append, List.cons_append]
  gi_wp2
  gi_loopw [7] (fun i wr => ∃ (k : Nat) (pre : List (El (OpC P w) (· ∈ L))), k ≤ nl ∧ i = .int .i64 (k : Int) ∧ Hid (pre.map El.x = L.take k) ∧ Hid (J pre wr) ∧ Hid (KC P W wr)) (fun i _ => nl - (intOf i).toNat)
  case atStart => exact ⟨0, [], Nat.zero_le _, rfl, Lib.hid (by simp), Lib.hid h0, Lib.hid (KC.refl _ _)⟩
  case round =>
    clear c5
    obtain ⟨j, pre, hk, rfl, hpre, hJs, hkc⟩ := hrel
    by_cases hkl : j < nl
    · have hkl' : j < L.length := by rw [← HNL.out]; exact hkl
      obtain ⟨b, off, rfl, hp, hlt, hr⟩ := HL.out (List.ne_nil_of_length_pos (by omega))
      obtain ⟨cs, hcl, hc, he⟩ := hr j _ (List.getElem?_eq_getElem hkl')
      obtain ⟨S, k, n, s, A0, n0, m0, A1, n1, m1, t, k', n', s', A0', n0', m0', A1', n1', m1', t', o, rfl⟩ := he.shape
      have HX := Lib.hid he
      have hcw := (hc.keepC hp HW.out).keepC hp hkc.out
      have c5 := HC5.out wr hkc.out
      have d0 := hcw 0 _ rfl
      have d1 := hcw 1 _ rfl
      have d2 := hcw 2 _ rfl
      have d3 := hcw 3 _ rfl
      have d4 := hcw 4 _ rfl
      have d5 := hcw 5 _ rfl
      have d6 := hcw 6 _ rfl
      have d7 := hcw 7 _ rfl
      have d8 := hcw 8 _ rfl
      have d9 := hcw 9 _ rfl
      have d10 := hcw 10 _ rfl
      have d11 := hcw 11 _ rfl
      have d12 := hcw 12 _ rfl
      have d13 := hcw 13 _ rfl
      rw [Nat.add_zero] at d0
      have i0 : (0 : Int) ≤ (j : Int) := by omega
      have i1 : (j : Int) < (nl : Int) := by omega
      have HTk : Hid (L.take (j + 1) = L.take j ++ [L[j]]) := Lib.hid (by rw [List.take_add_one, List.getElem?_eq_getElem hkl']; rfl)
      obtain ⟨fn, tmps, assign, body, hy, hR⟩ := HY.out pre ⟨j, L[j], _, he, List.getElem_mem hkl'⟩ (wr.alloc (.cells #[.string S, .int .i64 k, .int .i64 n, .string s, .slice A0 n0 m0, .slice A1 n1 m1, .int .i64 t, .int .i64 k', .int .i64 n', .string s', .slice A0' n0' m0', .slice A1' n1' m1', .int .i64 t', .bool o] 65)) (HJ.out.alloc _ hJs.out)
      have HR := Lib.hid hR
      dsimp only [elx] at hy
      clear hcw hc hr hp hlt hR
      gi_wp2
      have HK1 : Hid (KC P W (wr.alloc (.cells #[.string S, .int .i64 k, .int .i64 n, .string s, .slice A0 n0 m0, .slice A1 n1 m1, .int .i64 t, .int .i64 k', .int .i64 n', .string s', .slice A0' n0' m0', .slice A1' n1' m1', .int .i64 t', .bool o] 65))) := Lib.hid (hkc.out.trans (KC.alloc _ _ _))
      refine HR.out.mono ?_
      rintro e W3 (⟨rfl, hJ3, hk3, _⟩ | ⟨rfl, hJx3, _, _⟩)
      · have HJ3 := Lib.hid hJ3
        have HK3 := Lib.hid (HK1.out.trans hk3)
        clear hJ3 hk3
        gi_wp2
        go_roundw
        case rel => exact ⟨j + 1, pre ++ [⟨j, L[j], _, HX.out, List.getElem_mem hkl'⟩], by omega, by go_num, Lib.hid (by rw [HTk.out, List.map_append, hpre.out]; rfl), HJ3, HK3⟩
        case measure => simp [intOf]; omega
      · gi_wp2
        refine bodyPost_ret (results_none rfl _ _ _) rfl ?_
        exact ⟨⟨_, rfl⟩, .inr ⟨_, by
          rw [List.map_append, hpre.out]
          show L.take j ++ [L[j]] <+: L
          rw [← HTk.out]
          exact List.take_prefix _ _, hJx3⟩⟩
    · obtain rfl : j = nl := by omega
      have HALL : Hid (pre.map El.x = L) := Lib.hid (by have := hpre.out; rwa [HNL.out, List.take_length] at this)
      have c5 := HC5.out wr hkc.out
      gi_wp2
      go_end0
      exact ⟨⟨_, rfl⟩, .inl ⟨pre, HALL.out, hJs.out⟩⟩
set_option maxRecDepth 100000 in
set_option maxHeartbeats 4000000 in
theorem firstErrRowO_any (f : Opn → Int) (b1 : Nat) (A : Option Addr) (nl c : Nat) (L : List Opn) (w : World) (hb1 : w.cell? ⟨b1, 0, none⟩ = some (.slice A nl c)) (hl1 : b1 < w.heap.size)
    (hL : RowAt (fun b => b < w.heap.size) w A 14 (OpC (fun b => b < w.heap.size) w) L) (hnl : nl = L.length) (hlm : nl ≤ maxLen)
    (hck : ∀ x ∈ L, ∀ (P : Nat → Prop) (S : ByteArray) (k n : Int) (s : ByteArray) (A0 : Option Addr) (n0 m0 : Nat) (A1 : Option Addr) (n1 m1 : Nat) (t : Int) (k' n' : Int) (s' : ByteArray) (A0' : Option Addr) (n0' m0' : Nat) (A1' : Option Addr) (n1' m1' : Nat) (t' : Int) (o : Bool) (w' : World), Below w.heap.size w w' → OpC P w' x [.string S, .int .i64 k, .int .i64 n, .string s, .slice A0 n0 m0, .slice A1 n1 m1, .int .i64 t, .int .i64 k', .int .i64 n', .string s', .slice A0' n0' m0', .slice A1' n1' m1', .int .i64 t', .bool o] → Calls Tryz.prog 47 #[.agg #[.string S, .int .i64 k, .int .i64 n, .string s, .slice A0 n0 m0, .slice A1 n1 m1, .int .i64 t, .int .i64 k', .int .i64 n', .string s', .slice A0' n0' m0', .slice A1' n1' m1', .int .i64 t', .bool o]] w' fun r w2 => r = .returned (.int .i64 (f x)) ∧ Below w'.heap.size w' w2) :
    Calls Tryz.prog 45 #[.func (.func 96) #[] #[.pointer (some ⟨b1, 0, none⟩)], .func (.func 47) #[] #[]] w fun r w' =>
      r = .returned (.int .i64 (firstE f L)) ∧ Below w.heap.size w w' := by
  obtain ⟨W1, hW1⟩ : ∃ W1, (w.alloc (.cells #[.func (.func 47) #[] #[]] 124)).alloc (.cells #[.int .i64 0] 35) = W1 := ⟨_, rfl⟩
  have hg1 : ∀ row, w.grownBy W1 row := fun row => by rw [← hW1]; exact grown_trans (World.grownBy_alloc _ _ _) (World.grownBy_alloc _ _ _)
  have hz1 : W1.heap.size = w.heap.size + 2 := by rw [← hW1]; simp
  have hc1 : KC (fun _ => True) w W1 := KC.of_grown (hg1 none) (fun _ _ => by simp)
  have hB1 : Below w.heap.size w W1 := by rw [← hW1]; exact ((Below.refl _ _).alloc (Nat.le_refl _) _).alloc (by simp) _
  have HS1 : Hid (B1 W1 w.heap.size 124 (.func (.func 47) #[] #[])) := by rw [← hW1]; exact (B1.new w _ _).kept (World.grownBy_alloc _ _ none) (by simp)
  have HS2 : Hid (B1 W1 (w.heap.size + 1) 35 (.int .i64 0)) := by
    rw [← hW1]
    have := B1.new (w.alloc (.cells #[.func (.func 47) #[] #[]] 124)) 35 (.int .i64 0)
    rwa [World.size_alloc] at this
  have hq : ∀ b, b < w.heap.size → b ≠ w.heap.size + 1 := fun b hb => by omega
  have hseq := all_seqO b1 (fun b => b ≠ w.heap.size + 1) A nl c L W1 ((hc1.2 _ _ _ trivial hb1).1) (by omega) ((hL.weaken hq (fun _ _ h => h.weaken hq)).keepC (KC.of_grown (hg1 none) (fun _ _ => by simp)) (fun _ _ h => h.keepC (KC.of_grown (hg1 none) (fun _ _ => by simp)))) hnl hlm
  have HSeq := Lib.hid hseq
  have HCk := Lib.hid hck
  clear hseq hb1 hL hc1 hlm hnl hck
  refine callsIn_wide (n := 20) |>.1 ?_
  refine callsIn_of_wp_marks Tryz.func45 rfl trivial ?_ rfl
  simp only [Tryz.ntmps45, List.size_toArray, List.length_cons, List.length_nil, Nat.reduceAdd, Nat.reduceSub, Array.replicate_succ, Array.replicate_zero, List.push_toArray, List.append_toArray, List.nil_append, List.cons_append]
  gi_wp2
  clear hW1
  refine range_x (n := 20) (by omega) (gf := 96) (lb := #[.pointer (some ⟨b1, 0, none⟩)]) rfl (enters_of Tryz.func96 (by kernel_rfl) rfl) HSeq.out (fun _ => rfl)
    (fun ps W' => B1 W' (w.heap.size + 1) 35 (.int .i64 0) ∧ KC (fun b => b ≠ w.heap.size + 1) W1 W' ∧ Below w.heap.size w W' ∧ firstE f (ps.map El.x) = 0)
    (fun c ps W' => c = .ret ∧ ∃ v : Int, B1 W' (w.heap.size + 1) 35 (.int .i64 v) ∧ Below w.heap.size w W' ∧ v ≠ 0 ∧ firstE f (ps.map El.x) = v)
    ?hI ?hIx ?h0 (fun x a' W' => ∃ Bx, W1.heap.size ≤ Bx ∧ CellsAt W' Bx 0 x.cs ∧ a' = { tmps := #[.func (.func 96) #[] #[.pointer (some ⟨b1, 0, none⟩)], .func (.func 47) #[] #[], undef, .pointer (some ⟨w.heap.size, 0, none⟩), .pointer (some ⟨w.heap.size + 1, 0, none⟩), undef, .pointer (some ⟨Bx, 0, none⟩), undef,
      .func (.func 96) #[] #[.pointer (some ⟨b1, 0, none⟩)], .int .i64 x.i, .agg x.cs.toArray, undef, undef, undef, undef, undef, undef], defers := [] })
    ?hAx ?assign ?body ?done ?stop
  case hI =>
    rintro ps A A' row ⟨h1, h2, h3, h4⟩ hg hr
    exact ⟨h1.kept hg (fun e => by have := hr _ e.symm; omega), h2.own hg (fun r e => hr r e), h3.grown hg h3.size (fun k e => by have := hr _ e; omega), h4⟩
  case hIx =>
    rintro c ps A A' row ⟨hc, v, h1, h3, h4⟩ hg hr
    exact ⟨hc, v, h1.kept hg (fun e => by have := hr _ e.symm; omega), h3.grown hg h3.size (fun k e => by have := hr _ e; omega), h4⟩
  case h0 => exact ⟨HS2.out, KC.refl _ _, hB1, rfl⟩
  case hAx =>
    intro x a'
    right
    rintro A l2 o o' ⟨Bx, h1, h2, h3⟩ hl ho
    exact ⟨Bx, h1, CellsAt.keepC (P := fun _ => True) h2 trivial (KC.putObj o' hl ho), h3⟩
  case assign =>
    rintro l2 ps ⟨d, xx, xcs, xrep, xmem⟩ W' K ⟨h1, h2, h3, h4⟩ hz hK
    obtain ⟨S, k, n, s, A0, n0, m0, A1, n1, m1, t, k', n', s', A0', n0', m0', A1', n1', m1', t', o, rfl⟩ := xrep.shape
    unfold elx
    gi_wp2
    exact hK _ _ (KeepsFrom.of_grownBy (World.grownBy_alloc W' _ none) (fun j e => by cases e)) (KC.alloc _ _ _) ⟨h1.kept (World.grownBy_alloc _ _ none) (by simp), h2.trans (KC.alloc _ _ _), h3.alloc h3.size _, h4⟩ ⟨W'.heap.size, hz, cellsAt_new _ _ _, rfl⟩
  case body =>
    rintro l2 ps ⟨d, xx, xcs, xrep, xmem⟩ a' W' hl2 ⟨rr, hrr⟩ ⟨h1, h2, h3, h4⟩ ⟨Bx, hBx, hcx, rfl⟩
    obtain ⟨S, k, n, s, A0, n0, m0, A1, n1, m1, t, k', n', s', A0', n0', m0', A1', n1', m1', t', o, rfl⟩ := xrep.shape
    have d0 : W'.cell? ⟨Bx, 0, none⟩ = some (.string S) := by have := hcx 0 _ rfl; simpa using this
    have d1 : W'.cell? ⟨Bx, 1, none⟩ = some (.int .i64 k) := by have := hcx 1 _ rfl; simpa using this
    have d2 : W'.cell? ⟨Bx, 2, none⟩ = some (.int .i64 n) := by have := hcx 2 _ rfl; simpa using this
    have d3 : W'.cell? ⟨Bx, 3, none⟩ = some (.string s) := by have := hcx 3 _ rfl; simpa using this
    have d4 : W'.cell? ⟨Bx, 4, none⟩ = some (.slice A0 n0 m0) := by have := hcx 4 _ rfl; simpa using this
    have d5 : W'.cell? ⟨Bx, 5, none⟩ = some (.slice A1 n1 m1) := by have := hcx 5 _ rfl; simpa using this
    have d6 : W'.cell? ⟨Bx, 6, none⟩ = some (.int .i64 t) := by have := hcx 6 _ rfl; simpa using this
    have d7 : W'.cell? ⟨Bx, 7, none⟩ = some (.int .i64 k') := by have := hcx 7 _ rfl; simpa using this
    have d8 : W'.cell? ⟨Bx, 8, none⟩ = some (.int .i64 n') := by have := hcx 8 _ rfl; simpa using this
    have d9 : W'.cell? ⟨Bx, 9, none⟩ = some (.string s') := by have := hcx 9 _ rfl; simpa using this
    have d10 : W'.cell? ⟨Bx, 10, none⟩ = some (.slice A0' n0' m0') := by have := hcx 10 _ rfl; simpa using this
    have d11 : W'.cell? ⟨Bx, 11, none⟩ = some (.slice A1' n1' m1') := by have := hcx 11 _ rfl; simpa using this
    have d12 : W'.cell? ⟨Bx, 12, none⟩ = some (.int .i64 t') := by have := hcx 12 _ rfl; simpa using this
    have d13 : W'.cell? ⟨Bx, 13, none⟩ = some (.bool o) := by have := hcx 13 _ rfl; simpa using this
    have x3 := (h2.2 _ _ _ (by omega) HS1.out.c).1
    have HC := Lib.hid (HCk.out xx xmem _ S k n s A0 n0 m0 A1 n1 m1 t k' n' s' A0' n0' m0' A1' n1' m1' t' o W' h3 (xrep.keepC h2))
    obtain ⟨v, hv⟩ : ∃ v, v = f xx := ⟨_, rfl⟩
    rw [← hv] at HC
    obtain ⟨y, hy⟩ : ∃ y : El (OpC (fun b => b ≠ w.heap.size + 1) W1) (· ∈ L), y = ⟨d, xx, _, xrep, xmem⟩ := ⟨_, rfl⟩
    have HSn : Hid (firstE f ((ps ++ [y]).map El.x) = v) := Lib.hid (by rw [hy, List.map_append, List.map_cons, List.map_nil, firstE_snoc _ _ _ h4, hv])
    have HB := Lib.hid h1
    have HK := Lib.hid h2
    have HW := Lib.hid h3
    have h1n : 1 ≤ 20 - 1 - 1 := by omega
    rw [← hy]
    clear hcx h1 h2 h3 h4 hv hy
    by_cases hq : v = 0
    · subst hq
      gi_wp2_with (refine ⟨trivial, ?_⟩; gi_at_call 47; refine (CallsIn.inRound l2 ((callsIn_wide).2 HC.out)).mono ?_; rintro r W3 ⟨rfl, hb⟩)
      have hg := grown_below hb none
      exact ⟨KeepsFrom.of_grownBy hg (fun j e => by cases e), KC.of_grown hg (fun _ _ => by simp), HB.out.kept hg (by simp), HK.out.trans (KC.of_grown hg (fun _ _ => by simp)), HW.out.grown hg HW.out.size (fun j e => by cases e), HSn.out⟩
    · have hqb : (v == 0) = false := beq_eq_false_iff_ne.2 hq
      gi_wp2_with (refine ⟨trivial, ?_⟩; gi_at_call 47; refine (CallsIn.inRound l2 ((callsIn_wide).2 HC.out)).mono ?_; rintro r W3 ⟨rfl, hb⟩; have HB3 := Lib.hid (HB.out.kept (grown_below hb none) (by simp)); have c4 := HB3.out.c; have f4 := HB3.out.fr 0)
      have hg := grown_below hb none
      have hg2 := grown_set W3 ⟨w.heap.size + 1, 0, none⟩ (.int .i64 v)
      exact ⟨(KeepsFrom.of_grownBy hg (fun j e => by cases e)).trans ((KeepsOthers.setCell W3 ⟨w.heap.size + 1, 0, none⟩ (.int .i64 v)).from _), (KC.of_grown hg (fun _ _ => by simp)).trans (KC.of_grown hg2 (fun b hb e => hb (Option.some.inj e))), rfl, v, HB3.out.set _, (HW.out.grown hg HW.out.size (fun j e => by cases e)).grown hg2 (Nat.le_trans HW.out.size hg.size) (fun k e => by have : w.heap.size + 1 = k := Option.some.inj e; omega), hq, HSn.out⟩
  case done =>
    rintro D ys W' hD hS ⟨h1, h2, h3, h4⟩ hKD
    have c4 := h1.c
    have f4 := h1.fr 0
    gi_wp2
    have hg := grown_set W' ⟨w.heap.size + 1, 0, none⟩ (.int .i64 0)
    have hKD' := (KeepsOthers.setCell W' ⟨w.heap.size + 1, 0, none⟩ (.int .i64 0)).same D _ hKD rfl
    have hB := h3.grown hg h3.size (fun k e => by have : w.heap.size + 1 = k := Option.some.inj e; omega)
    refine ⟨by simp, .inl ⟨_, _, rfl, run_takeDeferred hKD', ?_⟩⟩
    refine ⟨_, res_firstO rfl ((KC.putObj (P := fun _ => True) (.deferred none) hKD' rfl).2 _ _ _ trivial (h1.set (.int .i64 0)).c).1, ?_, hB.grown (grownBy_putObj' _ D (.deferred none)) hB.size (fun k e => by have : D = k := Option.some.inj e; omega)⟩
    rw [hS] at h4
    rw [h4]
  case stop =>
    rintro D c ps W' hD hSp ⟨rfl, v, h1, h3, hv, h4⟩ hKD
    gi_wp2
    refine ⟨by simp, .inl ⟨_, _, rfl, run_takeDeferred hKD, ?_⟩⟩
    refine ⟨_, res_firstO rfl ((KC.putObj (P := fun _ => True) (.deferred none) hKD rfl).2 _ _ _ trivial h1.c).1, ?_, h3.grown (grownBy_putObj' _ D (.deferred none)) h3.size (fun k e => by have : D = k := Option.some.inj e; omega)⟩
    obtain ⟨rest, hrest⟩ := hSp
    rw [← hrest, firstE_app, h4, if_neg hv]
/-- slices.All, made and called -/
theorem allOfO (A : Option Addr) (n c : Nat) (w : World) : Calls Tryz.prog 46 #[.slice A n c] w fun e w' => e = .returned (.func (.func 96) #[] #[.pointer (some ⟨w.heap.size, 0, none⟩)]) ∧ w' = w.alloc (.cells #[.slice A n c] 55) := by
  have hmf : ∀ (fn : Fn) (first cap : Array Value) (w : World), (Instr.makeFunc fn first cap).run Tryz.prog w = .ok (.func fn first cap) w := fun _ _ _ _ => rfl
  go_enter Tryz.func46, Tryz.ntmps46
  go_wp2_with fail
  go_ret
  exact ⟨rfl, rfl⟩
/-- the first error of a row -/
theorem firstRowO_any (f : Opn → Int) (A : Option Addr) (nl c : Nat) (L : List Opn) (P : Nat → Prop) (w : World) (hL : RowAt P w A 14 (OpC P w) L) (hnl : nl = L.length) (hlm : nl ≤ maxLen)
    (hck : ∀ x ∈ L, ∀ (P : Nat → Prop) (S : ByteArray) (k n : Int) (s : ByteArray) (A0 : Option Addr) (n0 m0 : Nat) (A1 : Option Addr) (n1 m1 : Nat) (t : Int) (k' n' : Int) (s' : ByteArray) (A0' : Option Addr) (n0' m0' : Nat) (A1' : Option Addr) (n1' m1' : Nat) (t' : Int) (o : Bool) (w' : World), Below w.heap.size w w' → OpC P w' x [.string S, .int .i64 k, .int .i64 n, .string s, .slice A0 n0 m0, .slice A1 n1 m1, .int .i64 t, .int .i64 k', .int .i64 n', .string s', .slice A0' n0' m0', .slice A1' n1' m1', .int .i64 t', .bool o] → Calls Tryz.prog 47 #[.agg #[.string S, .int .i64 k, .int .i64 n, .string s, .slice A0 n0 m0, .slice A1 n1 m1, .int .i64 t, .int .i64 k', .int .i64 n', .string s', .slice A0' n0' m0', .slice A1' n1' m1', .int .i64 t', .bool o]] w' fun r w2 => r = .returned (.int .i64 (f x)) ∧ Below w'.heap.size w' w2) :
    ∀ w1, Below w.heap.size w w1 → Calls Tryz.prog 45 #[.func (.func 96) #[] #[.pointer (some ⟨w1.heap.size, 0, none⟩)], .func (.func 47) #[] #[]] (w1.alloc (.cells #[.slice A nl c] 55)) fun r w' =>
      r = .returned (.int .i64 (firstE f L)) ∧ Below w1.heap.size w1 w' := fun w1 hb => by
  have hb2 := (Below.refl w1.heap.size w1).alloc (Nat.le_refl _) (.cells #[.slice A nl c] 55)
  have hb3 : Below w.heap.size w (w1.alloc (.cells #[.slice A nl c] 55)) := hb.trans (hb2.mono hb.size)
  have hk : KC P w (w1.alloc (.cells #[.slice A nl c] 55)) := KC.of_same hb3
  refine (firstErrRowO_any f w1.heap.size A nl c L _ (B1.new w1 _ _).c (by simp) ((hL.keepC hk (fun _ _ h => h.keepC hk)).tight (fun _ _ h => h.tight)) hnl hlm (fun x hx P' S k n s A0 n0 m0 A1 n1 m1 t k' n' s' A0' n0' m0' A1' n1' m1' t' o w2 hw2 hr => hck x hx P' S k n s A0 n0 m0 A1 n1 m1 t k' n' s' A0' n0' m0' A1' n1' m1' t' o w2 (hb3.trans (hw2.mono hb3.size)) hr)).mono ?_
  rintro r w' ⟨h1, h2⟩
  exact ⟨h1, hb2.trans (h2.mono (by simp))⟩
end Go.Proofs.YtbmicnajedeenaaGreatDoor
