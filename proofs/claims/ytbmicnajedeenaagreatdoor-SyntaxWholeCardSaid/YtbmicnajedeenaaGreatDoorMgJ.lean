/- Texts put together by program: PgE PgF PgFB PgG PgJ PgH PgI PgK. -/
import Derived.Test.YtbmicnajedeenaaGreatDoorMgI
import Derived.Test.YtbmicnajedeenaaGreatDoorMgH
import Derived.Test.YtbmicnajedeenaaGreatDoorMgC
import Derived.Test.YtbmicnajedeenaaGreatDoorMgG
import Derived.Test.YtbmicnajedeenaaGreatDoorMgF
/- The program's check of declarations. -/
namespace Go.Proofs.YtbmicnajedeenaaGreatDoor
open Go.RowKit Go.Shelf

def cnP (x : Cn) : Int := if 4 < x.2.length then 3 else if isNm 2 x.1 = false then 4 else firstE dcP x.2
def dtP (x : Dt) : Int := if 4 < x.2.1.length ∨ 8 < x.2.2.length then 3 else if isNm 2 x.1 = false then 4 else if nmErr 1 [] x.2.1 = 0 then firstE cnP x.2.2 else nmErr 1 [] x.2.1
def opP (x : Opn) : Int := if isV x.1 = false then 4 else if dcP x.2.1 = 0 then dcP x.2.2.1 else dcP x.2.1
def efP (x : Ef) : Int := if 8 < x.2.length then 3 else if isNm 2 x.1 = false then 4 else firstE opP x.2
set_option maxRecDepth 100000 in
set_option maxHeartbeats 2000000 in
theorem checkCons_any (P : Nat → Prop) (x : Cn) (S : ByteArray) (A0 : Option Addr) (n0 m0 : Nat) (w : World) (hx : CnC P w x [.string S, .slice A0 n0 m0]) (hh : ∀ y ∈ x.2, hT y ≤ 900000) (hu : UsesT w) :
    Calls Tryz.prog 43 #[.agg #[.string S, .slice A0 n0 m0]] w fun e w' => e = .returned (.int .i64 (cnP x)) ∧ Below w.heap.size w w' := by
  obtain ⟨xs, xl⟩ := x
  obtain ⟨A, c, e, hs, hc, hr⟩ := hx
  simp only [List.cons.injEq, Value.string.injEq, Value.slice.injEq, and_true] at e
  obtain ⟨rfl, rfl, rfl, rfl⟩ := e
  have hlm : xl.length ≤ maxLen := Nat.le_trans hc.1 hc.2
  have hsz : (strB xs).size ≤ maxLen := by rw [strB_size]; exact hs
  have HI := Lib.hid (fun w => IsUpper_any (strB xs) w hsz)
  rw [data_strB] at HI
  have HA := Lib.hid (fun w => allOfT A0 xl.length m0 w)
  have HF := Lib.hid (firstRowT_any dcP A0 xl.length m0 xl P w hr rfl hlm (fun y hy P' k n s A0 n0 m0 A1 n1 m1 t w' hb hr => checkDeclared_any P' y k n s t A0 n0 m0 A1 n1 m1 w' hr (hh y hy) (hu.below hb)))
  obtain ⟨U, hU⟩ : ∃ U, U = isNm 2 xs := ⟨_, rfl⟩
  obtain ⟨V, hV⟩ : ∃ V, V = firstE dcP xl := ⟨_, rfl⟩
  obtain ⟨S, hS⟩ : ∃ S, S = strB xs := ⟨_, rfl⟩
  obtain ⟨n, hn⟩ : ∃ n, n = xl.length := ⟨_, rfl⟩
  obtain ⟨R, hR⟩ : ∃ R, R = cnP (xs, xl) := ⟨_, rfl⟩
  have HR : Hid (R = if 4 < n then 3 else if U = false then 4 else V) := Lib.hid (by rw [hR, hn, hU, hV]; rfl)
  rw [← hU, ← hS] at HI
  rw [← hn] at HA HF
  rw [← hV] at HF
  rw [← hR, ← hS, ← hn]
  rw [← hn] at hlm
  unfold maxLen at hlm
  obtain ⟨W1, hW1⟩ : ∃ W1, w.alloc (.cells #[.string S, .slice A0 n m0] 53) = W1 := ⟨_, rfl⟩
  have HB1 : Hid (Below w.heap.size w W1) := Lib.hid (by rw [← hW1]; exact (Below.refl _ _).alloc (Nat.le_refl _) _)
  have hx : W1.heap[w.heap.size]? = some (.cells #[.string S, .slice A0 n m0] 53 (0, 0)) := by rw [← hW1]; exact heap_alloc_new w _
  have HX := Lib.hid hx
  have a0 := cell_of_row W1 w.heap.size 0 _ _ (0, 0) hx
  have a1 := cell_of_row W1 w.heap.size 1 _ _ (0, 0) hx
  simp only [List.getElem?_toArray, List.getElem?_cons_zero, List.getElem?_cons_succ] at a0 a1
  clear hU hV hS hn hR hs hsz hc hr hx
  by_cases hb4 : 4 < n
  · have g1 : decide ((4 : Int) < (n : Int)) = true := decide_eq_true (by omega)
    have HRf : Hid (R = 3) := Lib.hid (by rw [HR.out, if_pos hb4])
    clear HR hb4
    go_enter Tryz.func43, Tryz.ntmps43
    go_wp2_with fail
    go_ret
    exact ⟨by rw [HRf.out]; rfl, HB1.out⟩
  · have g1 : decide ((4 : Int) < (n : Int)) = false := decide_eq_false (by omega)
    have HR2 : Hid (R = if U = false then 4 else V) := Lib.hid (by rw [HR.out, if_neg hb4])
    clear HR hb4
    cases U
    · have HRf : Hid (R = 4) := Lib.hid (by rw [HR2.out]; rfl)
      clear HR2
      go_enter Tryz.func43, Tryz.ntmps43
      go_wp2_with fail
      clear hW1
      refine (HI.out _).mono ?_
      rintro e w2 ⟨rfl, hb⟩
      have HB2 := Lib.hid (HB1.out.trans (hb.mono HB1.out.size))
      clear hb a0 a1
      go_wp2_with fail
      go_ret
      exact ⟨by rw [HRf.out]; rfl, HB2.out⟩
    · have HRf : Hid (R = V) := Lib.hid (by rw [HR2.out]; rfl)
      clear HR2
      go_enter Tryz.func43, Tryz.ntmps43
      go_wp2_with fail
      clear hW1
      refine (HI.out _).mono ?_
      rintro e w2 ⟨rfl, hb⟩
      have HB2 := Lib.hid (HB1.out.trans (hb.mono HB1.out.size))
      have hx2 := (hb.block _ (Array.getElem?_eq_some_iff.1 HX.out).1).trans HX.out
      clear hb a0 a1
      have a0 := cell_of_row w2 w.heap.size 0 _ _ (0, 0) hx2
      have a1 := cell_of_row w2 w.heap.size 1 _ _ (0, 0) hx2
      simp only [List.getElem?_toArray, List.getElem?_cons_zero, List.getElem?_cons_succ] at a0 a1
      clear hx2
      go_wp2_with fail
      refine (HA.out _).mono ?_
      rintro e w3 ⟨rfl, rfl⟩
      go_wp2_with fail
      refine (HF.out _ HB2.out).mono ?_
      rintro e w4 ⟨rfl, hb⟩
      have HB3 := Lib.hid (HB2.out.trans (hb.mono HB2.out.size))
      clear hb
      go_wp2_with fail
      go_ret
      exact ⟨by rw [HRf.out]; rfl, HB3.out⟩
set_option maxRecDepth 100000 in
set_option maxHeartbeats 4000000 in
theorem checkOp_any (P : Nat → Prop) (x : Opn) (S : ByteArray) (k n : Int) (s : ByteArray) (A0 : Option Addr) (n0 m0 : Nat) (A1 : Option Addr) (n1 m1 : Nat) (t : Int) (k' n' : Int) (s' : ByteArray) (A0' : Option Addr) (n0' m0' : Nat) (A1' : Option Addr) (n1' m1' : Nat) (t' : Int) (o : Bool) (w : World)
    (hx : OpC P w x [.string S, .int .i64 k, .int .i64 n, .string s, .slice A0 n0 m0, .slice A1 n1 m1, .int .i64 t, .int .i64 k', .int .i64 n', .string s', .slice A0' n0' m0', .slice A1' n1' m1', .int .i64 t', .bool o]) (hh : hT x.2.1 ≤ 900000 ∧ hT x.2.2.1 ≤ 900000) (hu : UsesT w) :
    Calls Tryz.prog 47 #[.agg #[.string S, .int .i64 k, .int .i64 n, .string s, .slice A0 n0 m0, .slice A1 n1 m1, .int .i64 t, .int .i64 k', .int .i64 n', .string s', .slice A0' n0' m0', .slice A1' n1' m1', .int .i64 t', .bool o]] w fun e w' => e = .returned (.int .i64 (opP x)) ∧ Below w.heap.size w w' := by
  obtain ⟨xs, x1, x2, xo⟩ := x
  obtain ⟨c1, c2, e, hs, h1, h2⟩ := hx
  obtain ⟨j1, j2, j3, j4, B0, p0, q0, B1, p1, q1, rfl⟩ := h1.shape2
  obtain ⟨l1, l2, l3, l4, E0, u0, v0, E1, u1, v1, rfl⟩ := h2.shape2
  simp only [List.cons_append, List.nil_append, List.cons.injEq, Value.string.injEq, Value.slice.injEq, Value.int.injEq, Value.bool.injEq, and_true, true_and] at e
  obtain ⟨rfl, rfl, rfl, rfl, ⟨rfl, rfl, rfl⟩, ⟨rfl, rfl, rfl⟩, rfl, rfl, rfl, rfl, ⟨rfl, rfl, rfl⟩, ⟨rfl, rfl, rfl⟩, rfl, rfl⟩ := e
  have hsz : (strB xs).size ≤ maxLen := by rw [strB_size]; exact hs
  have HI := Lib.hid (fun w => IsVar_any (strB xs) w hsz)
  rw [data_strB] at HI
  have HT1 := Lib.hid (fun w' (hb : Below w.heap.size w w') => checkDeclared_any P x1 _ _ _ _ _ _ _ _ _ _ w' (h1.keep (Same.of_below hb)) hh.1 (hu.below hb))
  have HT2 := Lib.hid (fun w' (hb : Below w.heap.size w w') => checkDeclared_any P x2 _ _ _ _ _ _ _ _ _ _ w' (h2.keep (Same.of_below hb)) hh.2 (hu.below hb))
  obtain ⟨U, hU⟩ : ∃ U, U = isV xs := ⟨_, rfl⟩
  obtain ⟨V, hV⟩ : ∃ V, V = dcP x1 := ⟨_, rfl⟩
  obtain ⟨Z, hZ⟩ : ∃ V, V = dcP x2 := ⟨_, rfl⟩
  obtain ⟨S, hS⟩ : ∃ S, S = strB xs := ⟨_, rfl⟩
  obtain ⟨R, hR⟩ : ∃ R, R = opP (xs, x1, x2, o) := ⟨_, rfl⟩
  have HR : Hid (R = if U = false then 4 else if V = 0 then Z else V) := Lib.hid (by rw [hR, hU, hV, hZ]; rfl)
  rw [← hU, ← hS] at HI
  rw [← hV] at HT1
  rw [← hZ] at HT2
  rw [← hR, ← hS]
  obtain ⟨W1, hW1⟩ : ∃ W1, w.alloc (.cells #[.string S, .int .i64 k, .int .i64 n, .string s, .slice A0 n0 m0, .slice A1 n1 m1, .int .i64 t, .int .i64 k', .int .i64 n', .string s', .slice A0' n0' m0', .slice A1' n1' m1', .int .i64 t', .bool o] 65) = W1 := ⟨_, rfl⟩
  have HB1 : Hid (Below w.heap.size w W1) := Lib.hid (by rw [← hW1]; exact (Below.refl _ _).alloc (Nat.le_refl _) _)
  have hx : W1.heap[w.heap.size]? = some (.cells #[.string S, .int .i64 k, .int .i64 n, .string s, .slice A0 n0 m0, .slice A1 n1 m1, .int .i64 t, .int .i64 k', .int .i64 n', .string s', .slice A0' n0' m0', .slice A1' n1' m1', .int .i64 t', .bool o] 65 (0, 0)) := by rw [← hW1]; exact heap_alloc_new w _
  have HX := Lib.hid hx
  have a0 := cell_of_row W1 w.heap.size 0 _ _ (0, 0) hx
  have a1 := cell_of_row W1 w.heap.size 1 _ _ (0, 0) hx
  have a2 := cell_of_row W1 w.heap.size 2 _ _ (0, 0) hx
  have a3 := cell_of_row W1 w.heap.size 3 _ _ (0, 0) hx
  have a4 := cell_of_row W1 w.heap.size 4 _ _ (0, 0) hx
  have a5 := cell_of_row W1 w.heap.size 5 _ _ (0, 0) hx
  have a6 := cell_of_row W1 w.heap.size 6 _ _ (0, 0) hx
  have a7 := cell_of_row W1 w.heap.size 7 _ _ (0, 0) hx
  have a8 := cell_of_row W1 w.heap.size 8 _ _ (0, 0) hx
  have a9 := cell_of_row W1 w.heap.size 9 _ _ (0, 0) hx
  have a10 := cell_of_row W1 w.heap.size 10 _ _ (0, 0) hx
  have a11 := cell_of_row W1 w.heap.size 11 _ _ (0, 0) hx
  have a12 := cell_of_row W1 w.heap.size 12 _ _ (0, 0) hx
  have a13 := cell_of_row W1 w.heap.size 13 _ _ (0, 0) hx
  simp only [List.getElem?_toArray, List.getElem?_cons_zero, List.getElem?_cons_succ] at a0 a1 a2 a3 a4 a5 a6 a7 a8 a9 a10 a11 a12 a13
  clear hU hV hZ hS hR hs hsz h1 h2 hx hh hu
  cases U
  · have HRf : Hid (R = 4) := Lib.hid (by rw [HR.out]; rfl)
    clear HR
    go_enter Tryz.func47, Tryz.ntmps47
    go_wp2_with fail
    clear hW1
    refine (HI.out _).mono ?_
    rintro e w2 ⟨rfl, hb⟩
    have HB2 := Lib.hid (HB1.out.trans (hb.mono HB1.out.size))
    clear hb a0 a1 a2 a3 a4 a5 a6 a7 a8 a9 a10 a11 a12 a13
    go_wp2_with fail
    go_ret
    exact ⟨by rw [HRf.out]; rfl, HB2.out⟩
  · have HR2 : Hid (R = if V = 0 then Z else V) := Lib.hid (by rw [HR.out]; rfl)
    clear HR
    go_enter Tryz.func47, Tryz.ntmps47
    go_wp2_with fail
    clear hW1
    refine (HI.out _).mono ?_
    rintro e w2 ⟨rfl, hb⟩
    have HB2 := Lib.hid (HB1.out.trans (hb.mono HB1.out.size))
    have HX2 := Lib.hid ((hb.block _ (Array.getElem?_eq_some_iff.1 HX.out).1).trans HX.out)
    clear hb a0 a1 a2 a3 a4 a5 a6 a7 a8 a9 a10 a11 a12 a13
    have a0 := cell_of_row w2 w.heap.size 0 _ _ (0, 0) HX2.out
    have a1 := cell_of_row w2 w.heap.size 1 _ _ (0, 0) HX2.out
    have a2 := cell_of_row w2 w.heap.size 2 _ _ (0, 0) HX2.out
    have a3 := cell_of_row w2 w.heap.size 3 _ _ (0, 0) HX2.out
    have a4 := cell_of_row w2 w.heap.size 4 _ _ (0, 0) HX2.out
    have a5 := cell_of_row w2 w.heap.size 5 _ _ (0, 0) HX2.out
    have a6 := cell_of_row w2 w.heap.size 6 _ _ (0, 0) HX2.out
    have a7 := cell_of_row w2 w.heap.size 7 _ _ (0, 0) HX2.out
    have a8 := cell_of_row w2 w.heap.size 8 _ _ (0, 0) HX2.out
    have a9 := cell_of_row w2 w.heap.size 9 _ _ (0, 0) HX2.out
    have a10 := cell_of_row w2 w.heap.size 10 _ _ (0, 0) HX2.out
    have a11 := cell_of_row w2 w.heap.size 11 _ _ (0, 0) HX2.out
    have a12 := cell_of_row w2 w.heap.size 12 _ _ (0, 0) HX2.out
    have a13 := cell_of_row w2 w.heap.size 13 _ _ (0, 0) HX2.out
    simp only [List.getElem?_toArray, List.getElem?_cons_zero, List.getElem?_cons_succ] at a0 a1 a2 a3 a4 a5 a6 a7 a8 a9 a10 a11 a12 a13
    go_wp2_with fail
    refine (HT1.out _ HB2.out).mono ?_
    rintro e w3 ⟨rfl, hb⟩
    have HB3 := Lib.hid (HB2.out.trans (hb.mono HB2.out.size))
    have HX3 := Lib.hid ((hb.block _ (Array.getElem?_eq_some_iff.1 HX2.out).1).trans HX2.out)
    clear hb a0 a1 a2 a3 a4 a5 a6 a7 a8 a9 a10 a11 a12 a13
    by_cases he : V = 0
    · subst he
      have HRf : Hid (R = Z) := Lib.hid (by rw [HR2.out, if_pos rfl])
      clear HR2
      have a0 := cell_of_row w3 w.heap.size 0 _ _ (0, 0) HX3.out
      have a1 := cell_of_row w3 w.heap.size 1 _ _ (0, 0) HX3.out
      have a2 := cell_of_row w3 w.heap.size 2 _ _ (0, 0) HX3.out
      have a3 := cell_of_row w3 w.heap.size 3 _ _ (0, 0) HX3.out
      have a4 := cell_of_row w3 w.heap.size 4 _ _ (0, 0) HX3.out
      have a5 := cell_of_row w3 w.heap.size 5 _ _ (0, 0) HX3.out
      have a6 := cell_of_row w3 w.heap.size 6 _ _ (0, 0) HX3.out
      have a7 := cell_of_row w3 w.heap.size 7 _ _ (0, 0) HX3.out
      have a8 := cell_of_row w3 w.heap.size 8 _ _ (0, 0) HX3.out
      have a9 := cell_of_row w3 w.heap.size 9 _ _ (0, 0) HX3.out
      have a10 := cell_of_row w3 w.heap.size 10 _ _ (0, 0) HX3.out
      have a11 := cell_of_row w3 w.heap.size 11 _ _ (0, 0) HX3.out
      have a12 := cell_of_row w3 w.heap.size 12 _ _ (0, 0) HX3.out
      have a13 := cell_of_row w3 w.heap.size 13 _ _ (0, 0) HX3.out
      simp only [List.getElem?_toArray, List.getElem?_cons_zero, List.getElem?_cons_succ] at a0 a1 a2 a3 a4 a5 a6 a7 a8 a9 a10 a11 a12 a13
      go_wp2_with fail
      refine (HT2.out _ HB3.out).mono ?_
      rintro e w4 ⟨rfl, hb⟩
      have HB4 := Lib.hid (HB3.out.trans (hb.mono HB3.out.size))
      clear hb
      go_wp2_with fail
      go_ret
      exact ⟨by rw [HRf.out]; rfl, HB4.out⟩
    · have hqb : (V == 0) = false := beq_eq_false_iff_ne.2 he
      have HRf : Hid (R = V) := Lib.hid (by rw [HR2.out, if_neg he])
      clear HR2
      go_wp2_with fail
      go_ret
      exact ⟨by rw [HRf.out]; rfl, HB3.out⟩
set_option maxRecDepth 100000 in
set_option maxHeartbeats 2000000 in
theorem checkEffect_any (P : Nat → Prop) (x : Ef) (S : ByteArray) (A0 : Option Addr) (n0 m0 : Nat) (w : World) (hx : EfC P w x [.string S, .slice A0 n0 m0]) (hh : ∀ y ∈ x.2, hT y.2.1 ≤ 900000 ∧ hT y.2.2.1 ≤ 900000) (hu : UsesT w) :
    Calls Tryz.prog 24 #[.agg #[.string S, .slice A0 n0 m0]] w fun e w' => e = .returned (.int .i64 (efP x)) ∧ Below w.heap.size w w' := by
  obtain ⟨xs, xl⟩ := x
  obtain ⟨A, c, e, hs, hc, hr⟩ := hx
  simp only [List.cons.injEq, Value.string.injEq, Value.slice.injEq, and_true] at e
  obtain ⟨rfl, rfl, rfl, rfl⟩ := e
  have hlm : xl.length ≤ maxLen := Nat.le_trans hc.1 hc.2
  have hsz : (strB xs).size ≤ maxLen := by rw [strB_size]; exact hs
  have HI := Lib.hid (fun w => IsUpper_any (strB xs) w hsz)
  rw [data_strB] at HI
  have HA := Lib.hid (fun w => allOfO A0 xl.length m0 w)
  have HF := Lib.hid (firstRowO_any opP A0 xl.length m0 xl P w hr rfl hlm (fun y hy P' S k n s A0 n0 m0 A1 n1 m1 t k' n' s' A0' n0' m0' A1' n1' m1' t' o w' hb hr => checkOp_any P' y S k n s A0 n0 m0 A1 n1 m1 t k' n' s' A0' n0' m0' A1' n1' m1' t' o w' hr (hh y hy) (hu.below hb)))
  obtain ⟨U, hU⟩ : ∃ U, U = isNm 2 xs := ⟨_, rfl⟩
  obtain ⟨V, hV⟩ : ∃ V, V = firstE opP xl := ⟨_, rfl⟩
  obtain ⟨S, hS⟩ : ∃ S, S = strB xs := ⟨_, rfl⟩
  obtain ⟨n, hn⟩ : ∃ n, n = xl.length := ⟨_, rfl⟩
  obtain ⟨R, hR⟩ : ∃ R, R = efP (xs, xl) := ⟨_, rfl⟩
  have HR : Hid (R = if 8 < n then 3 else if U = false then 4 else V) := Lib.hid (by rw [hR, hn, hU, hV]; rfl)
  rw [← hU, ← hS] at HI
  rw [← hn] at HA HF
  rw [← hV] at HF
  rw [← hR, ← hS, ← hn]
  rw [← hn] at hlm
  unfold maxLen at hlm
  obtain ⟨W1, hW1⟩ : ∃ W1, w.alloc (.cells #[.string S, .slice A0 n m0] 57) = W1 := ⟨_, rfl⟩
  have HB1 : Hid (Below w.heap.size w W1) := Lib.hid (by rw [← hW1]; exact (Below.refl _ _).alloc (Nat.le_refl _) _)
  have hx : W1.heap[w.heap.size]? = some (.cells #[.string S, .slice A0 n m0] 57 (0, 0)) := by rw [← hW1]; exact heap_alloc_new w _
  have HX := Lib.hid hx
  have a0 := cell_of_row W1 w.heap.size 0 _ _ (0, 0) hx
  have a1 := cell_of_row W1 w.heap.size 1 _ _ (0, 0) hx
  simp only [List.getElem?_toArray, List.getElem?_cons_zero, List.getElem?_cons_succ] at a0 a1
  clear hU hV hS hn hR hs hsz hc hr hx
  by_cases hb4 : 8 < n
  · have g1 : decide ((8 : Int) < (n : Int)) = true := decide_eq_true (by omega)
    have HRf : Hid (R = 3) := Lib.hid (by rw [HR.out, if_pos hb4])
    clear HR hb4
    go_enter Tryz.func24, Tryz.ntmps24
    go_wp2_with fail
    go_ret
    exact ⟨by rw [HRf.out]; rfl, HB1.out⟩
  · have g1 : decide ((8 : Int) < (n : Int)) = false := decide_eq_false (by omega)
    have HR2 : Hid (R = if U = false then 4 else V) := Lib.hid (by rw [HR.out, if_neg hb4])
    clear HR hb4
    cases U
    · have HRf : Hid (R = 4) := Lib.hid (by rw [HR2.out]; rfl)
      clear HR2
      go_enter Tryz.func24, Tryz.ntmps24
      go_wp2_with fail
      clear hW1
      refine (HI.out _).mono ?_
      rintro e w2 ⟨rfl, hb⟩
      have HB2 := Lib.hid (HB1.out.trans (hb.mono HB1.out.size))
      clear hb a0 a1
      go_wp2_with fail
      go_ret
      exact ⟨by rw [HRf.out]; rfl, HB2.out⟩
    · have HRf : Hid (R = V) := Lib.hid (by rw [HR2.out]; rfl)
      clear HR2
      go_enter Tryz.func24, Tryz.ntmps24
      go_wp2_with fail
      clear hW1
      refine (HI.out _).mono ?_
      rintro e w2 ⟨rfl, hb⟩
      have HB2 := Lib.hid (HB1.out.trans (hb.mono HB1.out.size))
      have hx2 := (hb.block _ (Array.getElem?_eq_some_iff.1 HX.out).1).trans HX.out
      clear hb a0 a1
      have a0 := cell_of_row w2 w.heap.size 0 _ _ (0, 0) hx2
      have a1 := cell_of_row w2 w.heap.size 1 _ _ (0, 0) hx2
      simp only [List.getElem?_toArray, List.getElem?_cons_zero, List.getElem?_cons_succ] at a0 a1
      clear hx2
      go_wp2_with fail
      refine (HA.out _).mono ?_
      rintro e w3 ⟨rfl, rfl⟩
      go_wp2_with fail
      refine (HF.out _ HB2.out).mono ?_
      rintro e w4 ⟨rfl, hb⟩
      have HB3 := Lib.hid (HB2.out.trans (hb.mono HB2.out.size))
      clear hb
      go_wp2_with fail
      go_ret
      exact ⟨by rw [HRf.out]; rfl, HB3.out⟩
set_option maxRecDepth 100000 in
set_option maxHeartbeats 2000000 in
theorem checkData_any (P : Nat → Prop) (x : Dt) (S : ByteArray) (A0 : Option Addr) (n0 m0 : Nat) (A1 : Option Addr) (n1 m1 : Nat) (w : World) (hx : DtC P w x [.string S, .slice A0 n0 m0, .slice A1 n1 m1]) (hh : ∀ y ∈ x.2.2, ∀ z ∈ y.2, hT z ≤ 900000) (hu : UsesT w) :
    Calls Tryz.prog 21 #[.agg #[.string S, .slice A0 n0 m0, .slice A1 n1 m1]] w fun e w' => e = .returned (.int .i64 (dtP x)) ∧ Below w.heap.size w w' := by
  obtain ⟨xs, xn, xl⟩ := x
  obtain ⟨A, c, A', c', e, hs, hc, hok, hnm, hc', hr⟩ := hx
  simp only [List.cons.injEq, Value.string.injEq, Value.slice.injEq, and_true] at e
  obtain ⟨rfl, ⟨rfl, rfl, rfl⟩, rfl, rfl, rfl⟩ := e
  have hlm : xl.length ≤ maxLen := Nat.le_trans hc'.1 hc'.2
  have hlm2 : xn.length ≤ maxLen := Nat.le_trans hc.1 hc.2
  have hsz : (strB xs).size ≤ maxLen := by rw [strB_size]; exact hs
  have HI := Lib.hid (fun w => IsUpper_any (strB xs) w hsz)
  rw [data_strB] at HI
  have HM := Lib.hid (fun w' (hb : Below w.heap.size w w') => checkNames_any 1 (by omega) P A0 m0 xn w' (hnm.keep (Same.of_below hb)) hc hok)
  have HA := Lib.hid (fun w => allOfC A1 xl.length m1 w)
  have HF := Lib.hid (firstRowC_any cnP A1 xl.length m1 xl P w hr rfl hlm (fun y hy P' S A0 n0 m0 w' hb hr => checkCons_any P' y S A0 n0 m0 w' hr (hh y hy) (hu.below hb)))
  obtain ⟨U, hU⟩ : ∃ U, U = isNm 2 xs := ⟨_, rfl⟩
  obtain ⟨V, hV⟩ : ∃ V, V = firstE cnP xl := ⟨_, rfl⟩
  obtain ⟨Z, hZ⟩ : ∃ V, V = nmErr 1 [] xn := ⟨_, rfl⟩
  obtain ⟨S, hS⟩ : ∃ S, S = strB xs := ⟨_, rfl⟩
  obtain ⟨n, hn⟩ : ∃ n, n = xl.length := ⟨_, rfl⟩
  obtain ⟨m, hm⟩ : ∃ n, n = xn.length := ⟨_, rfl⟩
  obtain ⟨R, hR⟩ : ∃ R, R = dtP (xs, xn, xl) := ⟨_, rfl⟩
  have HR : Hid (R = if 4 < m ∨ 8 < n then 3 else if U = false then 4 else if Z = 0 then V else Z) := Lib.hid (by rw [hR, hn, hm, hU, hV, hZ]; rfl)
  rw [← hU, ← hS] at HI
  rw [← hn] at HA HF
  rw [← hV] at HF
  rw [← hZ, ← hm] at HM
  rw [← hR, ← hS, ← hn, ← hm]
  rw [← hn] at hlm
  rw [← hm] at hlm2
  unfold maxLen at hlm hlm2
  obtain ⟨W1, hW1⟩ : ∃ W1, w.alloc (.cells #[.string S, .slice A0 m m0, .slice A1 n m1] 49) = W1 := ⟨_, rfl⟩
  have HB1 : Hid (Below w.heap.size w W1) := Lib.hid (by rw [← hW1]; exact (Below.refl _ _).alloc (Nat.le_refl _) _)
  have hx : W1.heap[w.heap.size]? = some (.cells #[.string S, .slice A0 m m0, .slice A1 n m1] 49 (0, 0)) := by rw [← hW1]; exact heap_alloc_new w _
  have HX := Lib.hid hx
  have a0 := cell_of_row W1 w.heap.size 0 _ _ (0, 0) hx
  have a1 := cell_of_row W1 w.heap.size 1 _ _ (0, 0) hx
  have a2 := cell_of_row W1 w.heap.size 2 _ _ (0, 0) hx
  simp only [List.getElem?_toArray, List.getElem?_cons_zero, List.getElem?_cons_succ] at a0 a1 a2
  clear hU hV hZ hS hn hm hR hs hsz hc hc' hr hx hok hnm
  by_cases hb4 : 4 < m ∨ 8 < n
  · have HRf : Hid (R = 3) := Lib.hid (by rw [HR.out, if_pos hb4])
    by_cases h4 : 4 < m
    · have g1 : decide ((4 : Int) < (m : Int)) = true := decide_eq_true (by omega)
      clear HR hb4 h4
      go_enter Tryz.func21, Tryz.ntmps21
      go_wp2_with fail
      go_ret
      exact ⟨by rw [HRf.out]; rfl, HB1.out⟩
    · have g1 : decide ((4 : Int) < (m : Int)) = false := decide_eq_false (by omega)
      have g2 : decide ((8 : Int) < (n : Int)) = true := decide_eq_true (by omega)
      clear HR hb4 h4
      go_enter Tryz.func21, Tryz.ntmps21
      go_wp2_with fail
      go_ret
      exact ⟨by rw [HRf.out]; rfl, HB1.out⟩
  · have g1 : decide ((4 : Int) < (m : Int)) = false := decide_eq_false (by omega)
    have g2 : decide ((8 : Int) < (n : Int)) = false := decide_eq_false (by omega)
    have HR2 : Hid (R = if U = false then 4 else if Z = 0 then V else Z) := Lib.hid (by rw [HR.out, if_neg hb4])
    clear HR hb4
    cases U
    · have HRf : Hid (R = 4) := Lib.hid (by rw [HR2.out]; rfl)
      clear HR2
      go_enter Tryz.func21, Tryz.ntmps21
      go_wp2_with fail
      clear hW1
      refine (HI.out _).mono ?_
      rintro e w2 ⟨rfl, hb⟩
      have HB2 := Lib.hid (HB1.out.trans (hb.mono HB1.out.size))
      clear hb a0 a1 a2
      go_wp2_with fail
      go_ret
      exact ⟨by rw [HRf.out]; rfl, HB2.out⟩
    · have HR3 : Hid (R = if Z = 0 then V else Z) := Lib.hid (by rw [HR2.out]; rfl)
      clear HR2
      go_enter Tryz.func21, Tryz.ntmps21
      go_wp2_with fail
      clear hW1
      refine (HI.out _).mono ?_
      rintro e w2 ⟨rfl, hb⟩
      have HB2 := Lib.hid (HB1.out.trans (hb.mono HB1.out.size))
      have HX2 := Lib.hid ((hb.block _ (Array.getElem?_eq_some_iff.1 HX.out).1).trans HX.out)
      clear hb a0 a1 a2
      have a0 := cell_of_row w2 w.heap.size 0 _ _ (0, 0) HX2.out
      have a1 := cell_of_row w2 w.heap.size 1 _ _ (0, 0) HX2.out
      have a2 := cell_of_row w2 w.heap.size 2 _ _ (0, 0) HX2.out
      simp only [List.getElem?_toArray, List.getElem?_cons_zero, List.getElem?_cons_succ] at a0 a1 a2
      go_wp2_with fail
      refine (HM.out _ HB2.out).mono ?_
      rintro e w3 ⟨rfl, hb⟩
      have HB3 := Lib.hid (HB2.out.trans (hb.mono HB2.out.size))
      have HX3 := Lib.hid ((hb.block _ (Array.getElem?_eq_some_iff.1 HX2.out).1).trans HX2.out)
      clear hb a0 a1 a2
      by_cases he : Z = 0
      · subst he
        have HRf : Hid (R = V) := Lib.hid (by rw [HR3.out, if_pos rfl])
        clear HR3
        have a0 := cell_of_row w3 w.heap.size 0 _ _ (0, 0) HX3.out
        have a1 := cell_of_row w3 w.heap.size 1 _ _ (0, 0) HX3.out
        have a2 := cell_of_row w3 w.heap.size 2 _ _ (0, 0) HX3.out
        simp only [List.getElem?_toArray, List.getElem?_cons_zero, List.getElem?_cons_succ] at a0 a1 a2
        go_wp2_with fail
        refine (HA.out _).mono ?_
        rintro e w4 ⟨rfl, rfl⟩
        go_wp2_with fail
        refine (HF.out _ HB3.out).mono ?_
        rintro e w5 ⟨rfl, hb⟩
        have HB4 := Lib.hid (HB3.out.trans (hb.mono HB3.out.size))
        clear hb
        go_wp2_with fail
        go_ret
        exact ⟨by rw [HRf.out]; rfl, HB4.out⟩
      · have hqb : (Z == 0) = false := beq_eq_false_iff_ne.2 he
        have HRf : Hid (R = Z) := Lib.hid (by rw [HR3.out, if_neg he])
        clear HR3
        go_wp2_with fail
        go_ret
        exact ⟨by rw [HRf.out]; rfl, HB3.out⟩
end Go.Proofs.YtbmicnajedeenaaGreatDoor
/- A range over a function whose rounds make memory that later rounds use; slices.Backward. -/
namespace Go.Proofs.YtbmicnajedeenaaGreatDoor
open Go.RowKit Go.Shelf

/-- stays with new memory, and where an object that holds no cells is another one -/
def OwnY {β : Type} (B : Nat) (J : β → World → Prop) : Prop := (∀ s W o, J s W → J s (W.alloc o)) ∧ ∀ s W l o o', J s W → B ≤ l → W.heap[l]? = some o → o.isCells = false → o'.isCells = false → J s (W.putObj l o')
/-- an iterator that makes memory alone, and yields these -/
def SeqY {α : Type} (n : Nat) (gf : Nat) (lb : Array Value) (encs : α → Array Value) (P : Nat → Prop) (S Sp : List α → Prop) (w0 : World) : Prop :=
  ∀ (l : Nat) (J Jx : List α → World → Prop) (W : World), w0.grownBy W none → (∀ s W o, J s W → J s (W.alloc o)) → (∀ s W o, Jx s W → Jx s (W.alloc o)) →
    (∀ pre x W1, J pre W1 → YieldAt Fence.wide (n - 1) Tryz.prog l (encs x) W1 fun e W' => (e = .returned (.bool true) ∧ J (pre ++ [x]) W' ∧ KC P W1 W' ∧ KeepsFrom W.heap.size W1 W') ∨ (e = .returned (.bool false) ∧ Jx (pre ++ [x]) W' ∧ KC P W1 W' ∧ KeepsFrom W.heap.size W1 W')) →
    J [] W → CallsIn Fence.wide n Tryz.prog gf (#[.func (.yield l) #[] #[]] ++ lb) W fun e W' => (∃ v, e = .returned v) ∧ ((∃ xs, S xs ∧ J xs W') ∨ (∃ pre, Sp pre ∧ Jx pre W'))
theorem range_y {α : Type} {n : Nat} {a : Act} {w : World} {g : Operand} {ps : Array Tmp} {assign body : Code} {Q : Exit → Act → World → Prop} (hn : 3 ≤ n) {gf : Nat} {lb : Array Value}
    (hg : a.eval g = .func (.func gf) #[] lb) (eg : ∀ args w, (callFunc gf args).run Tryz.prog w = .ok (.enter gf args) w)
    {encs : α → Array Value} {P : Nat → Prop} {S Sp : List α → Prop} (hseq : SeqY (n - 1) gf lb encs P S Sp w) (hps : ∀ x, (encs x).size = ps.size)
    (I : List α → World → Prop) (Ix : Code → List α → World → Prop) (hI : OwnY w.heap.size I) (hIx : ∀ c, OwnY w.heap.size (Ix c)) (h0 : I [] w) (Ax : α → Act → World → Prop)
    (hAx : ∀ x a', Own2 w.heap.size (fun (_ : Unit) W => Ax x a' W) ∨ ∀ W l o o', Ax x a' W → W.heap[l]? = some o → o.isCells = false → Ax x a' (W.putObj l o'))
    (hassign : ∀ (l : Nat) (pre : List α) (x : α) (W : World) (K : Act → World → Prop), I pre W → w.heap.size ≤ W.heap.size → (∀ a' W', KeepsFrom w.heap.size W W' → KC P W W' → I pre W' → Ax x a' W' → K a' W') →
      assign.wpIn (Fence.wide.inRound l) (n - 1 - 1) Tryz.prog (Exit.then K (fun _ _ _ => False)) { tmps := (ps.zip (encs x)).foldl (fun t (p, v) => t.setIfInBounds p v) a.tmps, defers := [] } W)
    (hbody : ∀ (l : Nat) (pre : List α) (x : α) (a' : Act) (W : World), w.heap.size ≤ l → (∃ r, W.heap[l]? = some (.loop r)) → I pre W → Ax x a' W → body.wpIn (Fence.wide.inRound l) (n - 1 - 1) Tryz.prog (postX w.heap.size P I Ix (pre ++ [x]) W) a' W)
    (hdone : ∀ (D : Nat) (xs : List α) (W : World), w.heap.size ≤ D → S xs → I xs W → W.heap[D]? = some (.deferred (some [])) → Q .normal { a with defers := { target := .collected D, args := #[] } :: a.defers } W)
    (hstop : ∀ (D : Nat) (c : Code) (pre : List α) (W : World), w.heap.size ≤ D → Sp pre → Ix c pre W → W.heap[D]? = some (.deferred (some [])) → c.wpIn Fence.wide n Tryz.prog Q { a with defers := { target := .collected D, args := #[] } :: a.defers } W) :
    (Code.rangeFunc g ps assign body).wpIn Fence.wide n Tryz.prog Q a w := by
  refine wpIn_rangeFunc ?_
  intro fn hfn
  rw [show Fence.wide.round = none from rfl]
  obtain ⟨rec, hrec⟩ : ∃ rec : LoopState → Option Code → Loop, rec = fun st pe => { state := st, pending := pe, fn, tmps := a.tmps, params := ps, assign, body, defers := w.heap.size } := ⟨_, rfl⟩
  obtain ⟨W1, hW1⟩ : ∃ W1, (w.alloc (.deferred (some []))).alloc (.loop (rec .ready none)) = W1 := ⟨_, rfl⟩
  have hL1 : W1.heap[w.heap.size + 1]? = some (.loop (rec .ready none)) := by
    rw [← hW1]; have := World.alloc_heap_new (w.alloc (.deferred (some []))) (.loop (rec .ready none)); rwa [World.size_alloc] at this
  have hK1 : W1.heap[w.heap.size]? = some (.deferred (some [])) := by
    rw [← hW1]; exact (Below.heap_alloc _ _ _ (by simp)).trans (World.alloc_heap_new w _)
  have hg1 : ∀ row, w.grownBy W1 row := fun row => by rw [← hW1]; exact grown_trans (World.grownBy_alloc _ _ _) (World.grownBy_alloc _ _ _)
  have hz1 : W1.heap.size = w.heap.size + 2 := by rw [← hW1]; simp
  refine ⟨w.heap.size + 1, [{ target := .collected w.heap.size, args := #[] }], W1, { target := .fn (.func gf) lb, args := #[.func (.yield (w.heap.size + 1)) #[] #[]] }, W1, gf,
    #[.func (.yield (w.heap.size + 1)) #[] #[]] ++ lb, W1, ?_, ?_, ?_, ?_, fun _ => by omega, ?_⟩
  · rw [← hW1, hrec]; exact run_enterLoop_outer _ _ _ _ _
  · simp only [resolve, hg]
    simp [go_sem]
  · intro f' hf'; trivial
  · simp [invoke, go_sem, eg]
  · refine (hseq (w.heap.size + 1)
      (fun pre W => I pre W ∧ W.heap[w.heap.size + 1]? = some (.loop (rec .ready none)) ∧ W.heap[w.heap.size]? = some (.deferred (some [])))
      (fun pre W => ∃ c, Ix c pre W ∧ W.heap[w.heap.size + 1]? = some (.loop (rec .done (some c))) ∧ W.heap[w.heap.size]? = some (.deferred (some [])))
      W1 (hg1 none) ?_ ?_ ?_ ⟨by rw [← hW1]; exact hI.1 _ _ _ (hI.1 _ _ _ h0), hL1, hK1⟩).mono ?_
    · rintro s A o ⟨hi, hl, hk⟩
      have l1 := (Array.getElem?_eq_some_iff.1 hl).1
      exact ⟨hI.1 _ _ _ hi, ((World.grownBy_alloc A o none).block _ l1 (by simp)).trans hl, ((World.grownBy_alloc A o none).block _ (by omega) (by simp)).trans hk⟩
    · rintro s A o ⟨c, hi, hl, hk⟩
      have l1 := (Array.getElem?_eq_some_iff.1 hl).1
      exact ⟨c, (hIx c).1 _ _ _ hi, ((World.grownBy_alloc A o none).block _ l1 (by simp)).trans hl, ((World.grownBy_alloc A o none).block _ (by omega) (by simp)).trans hk⟩
    · -- one round
      rintro pre x W ⟨hi, hl, hk⟩
      have hlt : w.heap.size + 1 < W.heap.size := (Array.getElem?_eq_some_iff.1 hl).1
      have hy := run_yield (P := Tryz.prog) (args := encs x) hl (by rw [hrec]; exact hps x)
      rw [hrec] at hy
      refine ⟨fn, _, assign, body, hy, roundIn_of_wpIn hfn ?_⟩
      refine hassign _ pre x W _ hi (by omega) ?_
      intro a' WA hkA hcA hiA hax
      have hlA := hkA.same _ _ (by omega) hl rfl
      have hdA := hkA.same _ _ (Nat.le_refl _) hk rfl
      have hltA : w.heap.size + 1 < WA.heap.size := (Array.getElem?_eq_some_iff.1 hlA).1
      refine ⟨_, run_beginRound hlA (by rw [hrec]), ?_⟩
      obtain ⟨WB, hWB⟩ : ∃ WB, WA.putObj (w.heap.size + 1) (.loop { rec .ready none with state := .busy }) = WB := ⟨_, rfl⟩
      have hl2 : WB.heap[w.heap.size + 1]? = some (.loop { rec .ready none with state := .busy }) := by rw [← hWB]; exact World.putObj_heap_same hltA
      have hk2 : WB.heap[w.heap.size]? = some (.deferred (some [])) := by rw [← hWB]; exact (World.putObj_heap_other (by omega)).trans hdA
      have hcB : KC P W WB := by rw [← hWB]; exact hcA.trans (KC.putObj _ hlA rfl)
      have hfB : KeepsFrom W1.heap.size W WB := by rw [← hWB]; exact (keeps_mono hkA (by omega)).trans (KeepsFrom.putObj_lt _ (by omega))
      have hiB : I pre WB := by rw [← hWB]; exact hI.2 _ _ _ _ _ hiA (by omega) hlA rfl rfl
      have hxB : Ax x a' WB := by
        rw [← hWB]
        rcases hAx x a' with h | h
        · exact h.putObj (s := ()) _ hax (by omega)
        · exact h _ _ _ _ hax hlA rfl
      have hgo := hbody _ pre x a' WB (by omega) ⟨_, hl2⟩ hiB hxB
      have fin : ∀ (jump : Option Code) (W3 : World), KeepsFrom w.heap.size WB W3 →
          ∃ W4, (Instr.endRound (w.heap.size + 1) jump).run Tryz.prog W3 = .ok (.bool jump.isNone) W4 ∧ W4 = W3.putObj (w.heap.size + 1) (.loop (rec (if jump.isNone then .ready else .done) jump)) ∧ (∃ o, W3.heap[w.heap.size + 1]? = some o ∧ o.isCells = false) ∧
            W4.heap[w.heap.size + 1]? = some (.loop (rec (if jump.isNone then .ready else .done) jump)) ∧ W4.heap[w.heap.size]? = some (.deferred (some [])) := fun jump W3 hk3 => by
        have hl3 := hk3.same _ _ (by omega) hl2 rfl
        have hd3 := hk3.same _ _ (Nat.le_refl _) hk2 rfl
        have hend := run_endRound (P := Tryz.prog) jump hl3
        rw [hrec] at hend ⊢
        exact ⟨_, hend, rfl, ⟨_, hl3, rfl⟩, World.putObj_heap_same (Array.getElem?_eq_some_iff.1 hl3).1, (World.putObj_heap_other (by omega)).trans hd3⟩
      subst hWB
      refine wpIn_mono hgo ?_
      rintro e a3 W3 hp
      cases e with
      | normal =>
        obtain ⟨hk3, hc3, hi3⟩ := hp
        obtain ⟨W4, hr4, hW4, ⟨o, ho, hoc⟩, hl4, hd4⟩ := fin none W3 hk3
        exact ⟨_, _, hr4, .inl ⟨rfl, ⟨by rw [hW4]; exact hI.2 _ _ _ _ _ hi3 (by omega) ho hoc rfl, hl4, hd4⟩, hcB.trans (hc3.trans (by rw [hW4]; exact KC.putObj _ ho hoc)), hfB.trans ((keeps_mono hk3 (by omega)).trans (by rw [hW4]; exact KeepsFrom.putObj_lt _ (by omega)))⟩⟩
      | ret =>
        obtain ⟨hk3, hc3, hi3⟩ := hp
        obtain ⟨W4, hr4, hW4, ⟨o, ho, hoc⟩, hl4, hd4⟩ := fin (some .ret) W3 hk3
        exact ⟨_, _, hr4, .inr ⟨rfl, ⟨.ret, by rw [hW4]; exact (hIx _).2 _ _ _ _ _ hi3 (by omega) ho hoc rfl, hl4, hd4⟩, hcB.trans (hc3.trans (by rw [hW4]; exact KC.putObj _ ho hoc)), hfB.trans ((keeps_mono hk3 (by omega)).trans (by rw [hW4]; exact KeepsFrom.putObj_lt _ (by omega)))⟩⟩
      | exit id =>
        obtain ⟨hk3, hc3, hi3⟩ := hp
        obtain ⟨W4, hr4, hW4, ⟨o, ho, hoc⟩, hl4, hd4⟩ := fin (some (.exit id)) W3 hk3
        exact ⟨_, _, hr4, .inr ⟨rfl, ⟨.exit id, by rw [hW4]; exact (hIx _).2 _ _ _ _ _ hi3 (by omega) ho hoc rfl, hl4, hd4⟩, hcB.trans (hc3.trans (by rw [hW4]; exact KC.putObj _ ho hoc)), hfB.trans ((keeps_mono hk3 (by omega)).trans (by rw [hW4]; exact KeepsFrom.putObj_lt _ (by omega)))⟩⟩
      | goto t => exact hp.elim
      | panic ch => exact hp.elim
      | outgrown => exact hp.elim
    · rintro e W2 ⟨⟨v, rfl⟩, (⟨xs, hS, hi, hl, hk⟩ | ⟨pre, hSp, c, hi, hl, hk⟩)⟩
      · have hend := run_endLoop (P := Tryz.prog) hl (by rw [hrec]; simp)
        rw [hrec] at hend
        exact ⟨none, _, hend, hdone _ xs _ (Nat.le_refl _) hS (hI.2 _ _ _ _ _ hi (by omega) hl rfl rfl) ((World.putObj_heap_other (by omega)).trans hk)⟩
      · have hend := run_endLoop (P := Tryz.prog) hl (by rw [hrec]; simp)
        rw [hrec] at hend
        exact ⟨some c, _, hend, hstop _ c pre _ (Nat.le_refl _) hSp ((hIx c).2 _ _ _ _ _ hi (by omega) hl rfl rfl) ((World.putObj_heap_other (by omega)).trans hk)⟩
end Go.Proofs.YtbmicnajedeenaaGreatDoor
/- slices.Backward over definitions. -/
namespace Go.Proofs.YtbmicnajedeenaaGreatDoor
open Go.RowKit Go.Shelf

attribute [local go_sem] Oper.semAt_some

set_option maxRecDepth 100000 in
set_option maxHeartbeats 4000000 in
theorem back_seq (b1 : Nat) (P : Nat → Prop) (A : Option Addr) (nl c : Nat) (L : List Df) (w : World) (hb1 : w.cell? ⟨b1, 0, none⟩ = some (.slice A nl c)) (hp1 : P b1) (hl : RowAt P w A 8 (DfC P w) L) (hnl : nl = L.length) (hlm : nl ≤ maxLen) :
    SeqY 19 88 #[.pointer (some ⟨b1, 0, none⟩)] (elx (R := DfC P w) (M := (· ∈ L))) P (fun ys => ys.map El.x = L.reverse) (fun ps => ps.map El.x <+: L.reverse) w := by
  intro l J Jx W hg hJ hJx hY h0
  have hc : KC P w W := KC.of_grown hg (fun _ _ => by simp)
  have HC5 : Hid (∀ wr, KC P W wr → wr.cell? ⟨b1, 0, none⟩ = some (.slice A nl c)) := fun wr h => ((hc.trans h).2 _ _ _ hp1 hb1).1
  have c5 := HC5.out W (KC.refl _ _)
  have HL := Lib.hid hl
  have HW := Lib.hid hc
  have HY := Lib.hid hY
  have HNL := Lib.hid hnl
  have HJ := Lib.hid hJ
  unfold maxLen at hlm
  clear hl hY hb1 hnl hg hJx hJ hc
  refine callsIn_of_wp Tryz.func88 rfl trivial ?_ rfl
  simp only [Tryz.ntmps88, List.size_toArray, List.length_cons, List.length_nil, Nat.reduceAdd, Nat.reduceSub, Array.replicate_succ, Array.replicate_zero, List.push_toArray, List.append_toArray, List.nil_append, List.cons_append]
  gi_wp2
  gi_loopw [3] (fun i wr => ∃ (q : Nat) (pre : List (El (DfC P w) (· ∈ L))), q ≤ nl ∧ i = .int .i64 ((q : Int) - 1) ∧ Hid (pre.map El.x = (L.drop q).reverse) ∧ Hid (J pre wr) ∧ Hid (KC P W wr)) (fun i _ => (intOf i + 1).toNat)
  case atStart => exact ⟨nl, [], Nat.le_refl _, rfl, Lib.hid (by rw [HNL.out]; simp), Lib.hid h0, Lib.hid (KC.refl _ _)⟩
  case round =>
    clear c5
    obtain ⟨q, pre, hk, rfl, hpre, hJs, hkc⟩ := hrel
    cases q with
    | succ j =>
      rw [show ((j + 1 : Nat) : Int) - 1 = (j : Int) by omega] at *
      have hkl' : j < L.length := by rw [← HNL.out]; exact hk
      obtain ⟨b, off, rfl, hp, hlt, hr⟩ := HL.out (List.ne_nil_of_length_pos (by omega))
      obtain ⟨cs, hcl, hc, he⟩ := hr j _ (List.getElem?_eq_getElem hkl')
      obtain ⟨S, k, n, s, t, A0, n0, m0, A1, n1, m1, A2, n2, m2, rfl⟩ := he.shape
      have HX := Lib.hid he
      have hcw := (hc.keepC hp HW.out).keepC hp hkc.out
      have c5 := HC5.out wr hkc.out
      have d0 := hcw 0 _ rfl
      have d1 := hcw 1 _ rfl
      have d2 := hcw 2 _ rfl
      have d3 := hcw 3 _ rfl
      have d4 := hcw 4 _ rfl
      have d5 := hcw 5 _ rfl
      have d6 := hcw 6 _ rfl
      have d7 := hcw 7 _ rfl
      rw [Nat.add_zero] at d0
      have i0 : (0 : Int) ≤ (j : Int) := by omega
      have i1 : (j : Int) < (nl : Int) := by omega
      have HTk : Hid ((L.drop j).reverse = (L.drop (j + 1)).reverse ++ [L[j]]) := Lib.hid (by rw [List.drop_eq_getElem_cons hkl', List.reverse_cons])
      have HPr : Hid ((L.drop j).reverse <+: L.reverse) := Lib.hid ⟨(L.take j).reverse, by rw [← List.reverse_append, List.take_append_drop]⟩
      obtain ⟨fn, tmps, assign, body, hy, hR⟩ := HY.out pre ⟨j, L[j], _, he, List.getElem_mem hkl'⟩ wr hJs.out
      have HR := Lib.hid hR
      dsimp only [elx] at hy
      clear hcw hc hr hp hlt hR
      gi_wp2
      have HK1 := hkc
      refine HR.out.mono ?_
      rintro e W3 (⟨rfl, hJ3, hk3, _⟩ | ⟨rfl, hJx3, _, _⟩)
      · have HJ3 := Lib.hid hJ3
        have HK3 := Lib.hid (HK1.out.trans hk3)
        clear hJ3 hk3
        gi_wp2
        go_roundw
        case rel => exact ⟨j, pre ++ [⟨j, L[j], _, HX.out, List.getElem_mem hkl'⟩], by omega, by go_num, Lib.hid (by rw [HTk.out, List.map_append, hpre.out]; rfl), HJ3, HK3⟩
        case measure => simp [intOf]
      · gi_wp2
        refine bodyPost_ret (results_none rfl _ _ _) rfl ?_
        exact ⟨⟨_, rfl⟩, .inr ⟨_, by
          rw [List.map_append, hpre.out]
          show (L.drop (j + 1)).reverse ++ [L[j]] <+: L.reverse
          rw [← HTk.out]
          exact HPr.out, hJx3⟩⟩
    | zero =>
      have HALL : Hid (pre.map El.x = L.reverse) := Lib.hid (by have := hpre.out; rwa [List.drop_zero] at this)
      have c5 := HC5.out wr hkc.out
      gi_wp2
      go_end0
      exact ⟨⟨_, rfl⟩, .inl ⟨pre, HALL.out, hJs.out⟩⟩
/-- slices.Backward, made and called -/
theorem backOf (A : Option Addr) (n c : Nat) (w : World) : Calls Tryz.prog 37 #[.slice A n c] w fun e w' => e = .returned (.func (.func 88) #[] #[.pointer (some ⟨w.heap.size, 0, none⟩)]) ∧ w' = w.alloc (.cells #[.slice A n c] 24) := by
  have hmf : ∀ (fn : Fn) (first cap : Array Value) (w : World), (Instr.makeFunc fn first cap).run Tryz.prog w = .ok (.func fn first cap) w := fun _ _ _ _ => rfl
  go_enter Tryz.func37, Tryz.ntmps37
  go_wp2_with fail
  go_ret
  exact ⟨rfl, rfl⟩
end Go.Proofs.YtbmicnajedeenaaGreatDoor
/- The nested Let of a program. -/
namespace Go.Proofs.YtbmicnajedeenaaGreatDoor
open Go.RowKit Go.Shelf

attribute [local go_sem] Oper.semAt_some

def nestP : List Df → Ex → Ex
  | [], m => m
  | d :: r, m => .mk 6 0 [] [] [d.1] [d.2, nestP r m] [] []
theorem hE_nest (B : Nat) : ∀ (L : List Df) (m : Ex), (∀ d ∈ L, hE d.2 ≤ B) → hE m ≤ B → hE (nestP L m) ≤ B + L.length
  | [], m, _, h => by simpa [nestP] using h
  | d :: r, m, hd, h => by
    have h1 := hd d (by simp)
    have h2 := hE_nest B r m (fun x hx => hd x (by simp [hx])) h
    simp only [nestP, hE, hL, List.length_cons]
    omega
theorem RepE.seven' {P : Nat → Prop} {w : World} {e : Ex} {c : List Value} (h : RepE P w e c) : c.length = 7 := by
  obtain ⟨k, n, s, t, A0, n0, c0, A1, n1, c1, A2, n2, c2, rfl⟩ := h.shape; rfl
theorem rep_let {P : Nat → Prop} {w : World} {S : Txt} {b m : Ex} {c1 c2 : List Value} {nb lb : Nat} (hS : okS S) (h1 : RepE P w b c1) (h2 : RepE P w m c2) (hn : w.cell? ⟨nb, 0, none⟩ = some (.string (strB S))) (hnb : P nb ∧ nb < w.heap.size) (hlb : P lb ∧ lb < w.heap.size) (hc : CellsAt w lb 0 (c1 ++ c2)) :
    RepE P w (.mk 6 0 [] [] [S] [b, m] [] []) [.int .i64 6, .int .i64 0, .string ⟨#[]⟩, .string ⟨#[]⟩, .slice (some ⟨nb, 0, none⟩) 1 1, .slice (some ⟨lb, 0, none⟩) 2 2, .slice none 0 0] := by
  have l1 := RepE.seven' h1
  have l2 := RepE.seven' h2
  refine ⟨some ⟨nb, 0, none⟩, 1, some ⟨lb, 0, none⟩, 2, none, 0, rfl, ⟨by unfold okN; omega, by unfold okN; omega, by unfold okS maxLen; simp, by unfold okS maxLen; simp, fun x hx => ?_, by unfold maxLen; simp, by unfold maxLen; simp, by unfold maxLen; simp⟩, fun _ => ⟨nb, 0, rfl, hnb.1, hnb.2, fun j x hj => ?_⟩, fun _ => ⟨lb, 0, rfl, hlb.1, hlb.2, ⟨⟨c1, l1, fun i v hi => ?_, h1⟩, ⟨⟨c2, l2, fun i v hi => ?_, h2⟩, trivial⟩⟩⟩, fun h => absurd rfl h, rfl⟩
  · obtain rfl : x = S := by simpa using hx
    exact hS
  · match j, hj with
    | 0, hj => simp at hj; subst hj; simpa using hn
    | j + 1, hj => simp at hj
  · have := hc i v (by rw [List.getElem?_append_left (List.getElem?_eq_some_iff.1 hi).1]; exact hi)
    simpa using this
  · have hil := (List.getElem?_eq_some_iff.1 hi).1
    have := hc (7 + i) v (by rw [List.getElem?_append_right (by omega), l1]; simpa using hi)
    simpa [Nat.add_assoc] using this
theorem res_nest {tmps : Array Value} {w : World} {g : Nat} {v0 v1 v2 v3 v4 v5 v6 : Value} (h2 : tmps.getD 2 undef = .pointer (some ⟨g, 0, none⟩)) (h : EB w g v0 v1 v2 v3 v4 v5 v6) :
    (results Tryz.f18 tmps).run Tryz.prog w = .ok (.agg #[v0, v1, v2, v3, v4, v5, v6]) w := by
  have c0 := h.c0
  have c1 := h.c1
  have c2 := h.c2
  have c3 := h.c3
  have c4 := h.c4
  have c5 := h.c5
  have c6 := h.c6
  have h2' : tmps[2]?.getD undef = .pointer (some ⟨g, 0, none⟩) := by simpa using h2
  simp [results, Tryz.results18, go_sem, h2', c0, c1, c2, c3, c4, c5, c6]
/-- a tree is returned, all new memory apart -/
def NestTo (w : World) (e : Ex) (r : Ending) (w' : World) : Prop :=
  ∃ (k n : Int) (s t : ByteArray) (A0 : Option Addr) (n0 c0 : Nat) (A1 : Option Addr) (n1 c1 : Nat) (A2 : Option Addr) (n2 c2 : Nat), r = .returned (.agg #[.int .i64 k, .int .i64 n, .string s, .string t, .slice A0 n0 c0, .slice A1 n1 c1, .slice A2 n2 c2]) ∧
    RepE (fun _ => True) w' e [.int .i64 k, .int .i64 n, .string s, .string t, .slice A0 n0 c0, .slice A1 n1 c1, .slice A2 n2 c2] ∧ Below w.heap.size w w'
set_option maxRecDepth 100000 in
set_option maxHeartbeats 8000000 in
theorem nest_any (p : Pg) (A : Option Addr) (a ca : Nat) (B : Option Addr) (b cb : Nat) (C : Option Addr) (c cc : Nat) (k n : Int) (s t : ByteArray) (A0 : Option Addr) (n0 m0 : Nat) (A1 : Option Addr) (n1 m1 : Nat) (A2 : Option Addr) (n2 m2 : Nat) (w : World)
    (hp : RepG (fun _ => True) w p [.slice A a ca, .slice B b cb, .slice C c cc, .int .i64 k, .int .i64 n, .string s, .string t, .slice A0 n0 m0, .slice A1 n1 m1, .slice A2 n2 m2]) :
    Calls Tryz.prog 18 #[.agg #[.slice A a ca, .slice B b cb, .slice C c cc, .int .i64 k, .int .i64 n, .string s, .string t, .slice A0 n0 m0, .slice A1 n1 m1, .slice A2 n2 m2]] w (NestTo w (nestP p.dfs p.m)) := by
  obtain ⟨pds, pfs, pd, pm⟩ := p
  obtain ⟨_, _, _, _, D, d, c7, e, ⟨_, _, hcap⟩, _, _, hr, hm⟩ := hp
  simp only [List.cons.injEq, Value.slice.injEq] at e
  obtain ⟨⟨rfl, e1, rfl⟩, ⟨rfl, e2, rfl⟩, ⟨rfl, e3, rfl⟩, rfl⟩ := e
  dsimp only at e3 hcap hr hm ⊢
  have hlm : c ≤ maxLen := by rw [e3]; exact Nat.le_trans hcap.1 hcap.2
  have HV := Lib.hid (fun w => backOf C c cc w)
  have E3 := Lib.hid e3
  clear e1 e2 e3
  obtain ⟨W1, hW1⟩ : ∃ W1, ((w.alloc (.cells #[.slice A a ca, .slice B b cb, .slice C c cc, .int .i64 k, .int .i64 n, .string s, .string t, .slice A0 n0 m0, .slice A1 n1 m1, .slice A2 n2 m2] 32)).alloc (.cells #[.int .i64 0, .int .i64 0, .string ⟨#[]⟩, .string ⟨#[]⟩, .slice none 0 0, .slice none 0 0, .slice none 0 0] 30)).alloc (.cells #[.int .i64 k, .int .i64 n, .string s, .string t, .slice A0 n0 m0, .slice A1 n1 m1, .slice A2 n2 m2] 30) = W1 := ⟨_, rfl⟩
  have HB1 : Hid (Below w.heap.size w W1) := Lib.hid (by rw [← hW1]; exact (((Below.refl _ _).alloc (Nat.le_refl _) _).alloc (by simp) _).alloc (by simp; omega) _)
  have HE1 : Hid (EB W1 (w.heap.size + 1 + 1) (.int .i64 k) (.int .i64 n) (.string s) (.string t) (.slice A0 n0 m0) (.slice A1 n1 m1) (.slice A2 n2 m2)) := Lib.hid (by
    rw [← hW1]
    have := EB.new ((w.alloc (.cells #[.slice A a ca, .slice B b cb, .slice C c cc, .int .i64 k, .int .i64 n, .string s, .string t, .slice A0 n0 m0, .slice A1 n1 m1, .slice A2 n2 m2] 32)).alloc (.cells #[.int .i64 0, .int .i64 0, .string ⟨#[]⟩, .string ⟨#[]⟩, .slice none 0 0, .slice none 0 0, .slice none 0 0] 30)) (.int .i64 k) (.int .i64 n) (.string s) (.string t) (.slice A0 n0 m0) (.slice A1 n1 m1) (.slice A2 n2 m2)
    rwa [World.size_alloc, World.size_alloc] at this)
  have HQ1 : Hid (EB W1 (w.heap.size + 1) (.int .i64 0) (.int .i64 0) (.string ⟨#[]⟩) (.string ⟨#[]⟩) (.slice none 0 0) (.slice none 0 0) (.slice none 0 0)) := Lib.hid (by
    rw [← hW1]
    have := (EB.new (w.alloc (.cells #[.slice A a ca, .slice B b cb, .slice C c cc, .int .i64 k, .int .i64 n, .string s, .string t, .slice A0 n0 m0, .slice A1 n1 m1, .slice A2 n2 m2] 32)) (.int .i64 0) (.int .i64 0) (.string ⟨#[]⟩) (.string ⟨#[]⟩) (.slice none 0 0) (.slice none 0 0) (.slice none 0 0))
    rw [World.size_alloc] at this
    exact this.kept (World.grownBy_alloc _ _ none) (by simp))
  have hx : W1.heap[w.heap.size]? = some (.cells #[.slice A a ca, .slice B b cb, .slice C c cc, .int .i64 k, .int .i64 n, .string s, .string t, .slice A0 n0 m0, .slice A1 n1 m1, .slice A2 n2 m2] 32 (0, 0)) := by
    rw [← hW1]
    exact ((World.grownBy_alloc _ _ none).block _ (by simp; omega) (by simp)).trans (((World.grownBy_alloc _ _ none).block _ (by simp) (by simp)).trans (heap_alloc_new w _))
  have a2 := cell_of_row W1 w.heap.size 2 _ _ (0, 0) hx
  simp only [List.getElem?_toArray, List.getElem?_cons_zero, List.getElem?_cons_succ] at a2
  clear hx
  refine callsIn_wide (n := 20) |>.1 ?_
  refine callsIn_of_wp_marks Tryz.func18 rfl trivial ?_ rfl
  simp only [Tryz.ntmps18, List.size_toArray, List.length_cons, List.length_nil, Nat.reduceAdd, Nat.reduceSub, Array.replicate_succ, Array.replicate_zero, List.push_toArray, List.append_toArray, List.nil_append, List.cons_append]
  gi_wp2_with (refine ⟨trivial, ?_⟩; gi_at_call 37; refine ((callsIn_wide).2 (HV.out _)).mono ?_; rintro r w1 ⟨rfl, rfl⟩)
  have hz1 : w.heap.size + 1 + 1 < W1.heap.size := HE1.out.lt
  obtain ⟨W2, hW2⟩ : ∃ W2, W1.alloc (.cells #[.slice C c cc] 24) = W2 := ⟨_, rfl⟩
  have hg2 : W1.grownBy W2 none := by rw [← hW2]; exact World.grownBy_alloc _ _ _
  have hz2 : W1.heap.size < W2.heap.size := by rw [← hW2]; simp
  have hb2 : Below w.heap.size w W2 := HB1.out.grown hg2 HB1.out.size (fun j e => by cases e)
  have hbx : W2.cell? ⟨W1.heap.size, 0, none⟩ = some (.slice C c cc) := by rw [← hW2]; exact (B1.new W1 _ _).c
  have hq : ∀ z, z < w.heap.size → z ≠ w.heap.size + 1 ∧ z ≠ w.heap.size + 1 + 1 := fun z hz => by omega
  have hseq := back_seq W1.heap.size (fun z => z ≠ w.heap.size + 1 ∧ z ≠ w.heap.size + 1 + 1) C c cc pd W2 hbx ⟨by omega, by omega⟩ (((hr.tight (fun _ _ h => h.tight)).weaken hq (fun _ _ h => h.weaken hq)).keepC (KC.of_same hb2) (fun _ _ h => h.keepC (KC.of_same hb2))) E3.out hlm
  have HSeq := Lib.hid hseq
  have HM := Lib.hid ((hm.tight.weaken (fun z hz => hq z hz.2)).keepC (KC.of_same hb2))
  have HE2 := Lib.hid (HE1.out.kept hg2 (by simp))
  have HQ2 := Lib.hid (HQ1.out.kept hg2 (by simp))
  rw [hW2]
  clear hseq hr hm hcap hbx hW2 a2
  refine range_y (n := 20) (by omega) (gf := 88) (lb := #[.pointer (some ⟨W1.heap.size, 0, none⟩)]) rfl (enters_of Tryz.func88 (by kernel_rfl) rfl) HSeq.out (fun _ => rfl)
    (fun ps W' => ∃ (k n : Int) (s t : ByteArray) (A0 : Option Addr) (n0 m0 : Nat) (A1 : Option Addr) (n1 m1 : Nat) (A2 : Option Addr) (n2 m2 : Nat), EB W' (w.heap.size + 1 + 1) (.int .i64 k) (.int .i64 n) (.string s) (.string t) (.slice A0 n0 m0) (.slice A1 n1 m1) (.slice A2 n2 m2) ∧
      RepE (fun z => z ≠ w.heap.size + 1 ∧ z ≠ w.heap.size + 1 + 1) W' (nestP (ps.map El.x).reverse pm) [.int .i64 k, .int .i64 n, .string s, .string t, .slice A0 n0 m0, .slice A1 n1 m1, .slice A2 n2 m2] ∧ KC (fun z => z ≠ w.heap.size + 1 ∧ z ≠ w.heap.size + 1 + 1) W2 W' ∧ Below w.heap.size w W' ∧ EB W' (w.heap.size + 1) (.int .i64 0) (.int .i64 0) (.string ⟨#[]⟩) (.string ⟨#[]⟩) (.slice none 0 0) (.slice none 0 0) (.slice none 0 0))
    (fun _ _ _ => False)
    ?hI ?hIx ?h0 (fun x a' W' => ∃ Bx, W2.heap.size ≤ Bx ∧ CellsAt W' Bx 0 x.cs ∧ a' = { tmps := #[.agg #[.slice A a ca, .slice B b cb, .slice C c cc, .int .i64 k, .int .i64 n, .string s, .string t, .slice A0 n0 m0, .slice A1 n1 m1, .slice A2 n2 m2], .pointer (some ⟨w.heap.size, 0, none⟩), .pointer (some ⟨w.heap.size + 1, 0, none⟩), .pointer (some ⟨w.heap.size + 1 + 1, 0, none⟩), undef, .pointer (some ⟨Bx, 0, none⟩),
      .pointer (some ⟨w.heap.size, 3, none⟩), .agg #[.int .i64 k, .int .i64 n, .string s, .string t, .slice A0 n0 m0, .slice A1 n1 m1, .slice A2 n2 m2], .pointer (some ⟨w.heap.size, 2, none⟩), .slice C c cc, .func (.func 88) #[] #[.pointer (some ⟨W1.heap.size, 0, none⟩)], .int .i64 x.i, .agg x.cs.toArray, undef, undef, undef, undef, undef, undef, undef, undef, undef], defers := [] })
    ?hAx ?assign ?body ?done ?stop
  case hI =>
    refine ⟨?_, ?_⟩
    · rintro ps W o ⟨k, n, s, t, A0, n0, m0, A1, n1, m1, A2, n2, m2, h1, h2, h3, h4, h5⟩
      exact ⟨k, n, s, t, A0, n0, m0, A1, n1, m1, A2, n2, m2, h1.kept (World.grownBy_alloc _ _ none) (by simp), h2.keepC (KC.alloc _ _ _), h3.trans (KC.alloc _ _ _), h4.alloc h4.size _, h5.kept (World.grownBy_alloc _ _ none) (by simp)⟩
    · rintro ps W l o o' ⟨k, n, s, t, A0, n0, m0, A1, n1, m1, A2, n2, m2, h1, h2, h3, h4, h5⟩ hl ho hoc hoc'
      have hk : KC (fun z => z ≠ w.heap.size + 1 ∧ z ≠ w.heap.size + 1 + 1) W (W.putObj l o') := KC.putObj o' ho hoc
      have hne : l ≠ w.heap.size + 1 + 1 := by omega
      exact ⟨k, n, s, t, A0, n0, m0, A1, n1, m1, A2, n2, m2, h1.kept (grownBy_putObj' W l o') (by simp; omega), h2.keepC hk, h3.trans hk, h4.grown (grownBy_putObj' W l o') h4.size (fun j e => by have := Option.some.inj e; omega), h5.kept (grownBy_putObj' W l o') (by simp; omega)⟩
  case hIx => exact fun _ => ⟨fun _ _ _ h => h, fun _ _ _ _ _ h => h.elim⟩
  case h0 => exact ⟨k, n, s, t, A0, n0, m0, A1, n1, m1, A2, n2, m2, HE2.out, HM.out, KC.refl _ _, hb2, HQ2.out⟩
  case hAx =>
    intro x a'
    right
    rintro A l2 o o' ⟨Bx, h1, h2, h3⟩ hl ho
    exact ⟨Bx, h1, CellsAt.keepC (P := fun _ => True) h2 trivial (KC.putObj o' hl ho), h3⟩
  case assign =>
    rintro l2 ps ⟨d, xx, xcs, xrep, xmem⟩ W' K ⟨k', n', s', t', A0', n0', m0', A1', n1', m1', A2', n2', m2', h1, h2, h3, h4, h5⟩ hz hK
    obtain ⟨yS, yk, yn, ys, yt, B0, p0, q0, B1', p1, q1, B2, p2, q2, rfl⟩ := xrep.shape
    unfold elx
    gi_wp2
    exact hK _ _ (KeepsFrom.of_grownBy (World.grownBy_alloc W' _ none) (fun j e => by cases e)) (KC.alloc _ _ _) ⟨k', n', s', t', A0', n0', m0', A1', n1', m1', A2', n2', m2', h1.kept (World.grownBy_alloc _ _ none) (by simp), h2.keepC (KC.alloc _ _ _), h3.trans (KC.alloc _ _ _), h4.alloc h4.size _, h5.kept (World.grownBy_alloc _ _ none) (by simp)⟩ ⟨W'.heap.size, hz, cellsAt_new _ _ _, rfl⟩
  case body =>
    rintro l2 ps ⟨d, xx, xcs, xrep, xmem⟩ a' W' hl2 _ ⟨k', n', s', t', A0', n0', m0', A1', n1', m1', A2', n2', m2', h1, h2, h3, h4, h5⟩ ⟨Bx, hBx, hcx, rfl⟩
    obtain ⟨yS, yk, yn, ys, yt, B0, p0, q0, B1', p1, q1, B2, p2, q2, rfl⟩ := xrep.shape
    have HX := Lib.hid (xrep.keepC h3)
    have d0 : W'.cell? ⟨Bx, 0, none⟩ = some (.string yS) := by have := hcx 0 _ rfl; simpa using this
    have d1 : W'.cell? ⟨Bx, 1, none⟩ = some (.int .i64 yk) := by have := hcx 1 _ rfl; simpa using this
    have d2 : W'.cell? ⟨Bx, 2, none⟩ = some (.int .i64 yn) := by have := hcx 2 _ rfl; simpa using this
    have d3 : W'.cell? ⟨Bx, 3, none⟩ = some (.string ys) := by have := hcx 3 _ rfl; simpa using this
    have d4 : W'.cell? ⟨Bx, 4, none⟩ = some (.string yt) := by have := hcx 4 _ rfl; simpa using this
    have d5 : W'.cell? ⟨Bx, 5, none⟩ = some (.slice B0 p0 q0) := by have := hcx 5 _ rfl; simpa using this
    have d6 : W'.cell? ⟨Bx, 6, none⟩ = some (.slice B1' p1 q1) := by have := hcx 6 _ rfl; simpa using this
    have d7 : W'.cell? ⟨Bx, 7, none⟩ = some (.slice B2 p2 q2) := by have := hcx 7 _ rfl; simpa using this
    have u0 := h1.c0
    have u1 := h1.c1
    have u2 := h1.c2
    have u3 := h1.c3
    have u4 := h1.c4
    have u5 := h1.c5
    have u6 := h1.c6
    have r0 := h1.fr 0
    have r1 := h1.fr 1
    have r2 := h1.fr 2
    have r3 := h1.fr 3
    have r4 := h1.fr 4
    have r5 := h1.fr 5
    have r6 := h1.fr 6
    have hBl : Bx < W'.heap.size := by obtain ⟨b, o, e, hlt⟩ := plain_of d0; injection e with e1; omega
    have hwl : w.heap.size + 1 + 1 < W'.heap.size := h1.lt
    have f1 : ¬ Bx = W'.heap.size := by omega
    have f2 : ¬ W'.heap.size = Bx := by omega
    have f3 : ¬ Bx = W'.heap.size + 1 := by omega
    have f4 : ¬ W'.heap.size + 1 = Bx := by omega
    have f5 : ¬ w.heap.size + 1 + 1 = W'.heap.size := by omega
    have f6 : ¬ w.heap.size + 1 + 1 = W'.heap.size + 1 := by omega
    have f7 : ¬ W'.heap.size = w.heap.size + 1 + 1 := by omega
    have f8 : ¬ W'.heap.size + 1 = w.heap.size + 1 + 1 := by omega
    have H1 := Lib.hid h1
    have H2 := Lib.hid h2
    have H3 := Lib.hid h3
    have H4 := Lib.hid h4
    have H5 := Lib.hid h5
    have hg3 : W'.grownBy ((W'.alloc (.cells #[.string yS] 9)).alloc (.cells #[.int .i64 yk, .int .i64 yn, .string ys, .string yt, .slice B0 p0 q0, .slice B1' p1 q1, .slice B2 p2 q2, .int .i64 k', .int .i64 n', .string s', .string t', .slice A0' n0' m0', .slice A1' n1' m1', .slice A2' n2' m2'] 30)) none := grown_trans (World.grownBy_alloc _ _ _) (World.grownBy_alloc _ _ _)
    have h13 := h1.kept hg3 (by simp)
    have v0 := h13.c0
    have s0 := h13.fr 0
    have v1 := h13.c1
    have s1 := h13.fr 1
    have v2 := h13.c2
    have s2 := h13.fr 2
    have v3 := h13.c3
    have s3 := h13.fr 3
    have v4 := h13.c4
    have s4 := h13.fr 4
    have v5 := h13.c5
    have s5 := h13.fr 5
    have v6 := h13.c6
    have s6 := h13.fr 6
    have H13 := Lib.hid h13
    have HG3 := Lib.hid hg3
    clear hcx h1 h2 h3 h4 h5 h13 hg3
    dsimp only
    gi_wp2
    have hnb := heap_alloc_new W' (.cells #[.string yS] 9)
    have hlb := heap_alloc_new (W'.alloc (.cells #[.string yS] 9)) (.cells #[.int .i64 yk, .int .i64 yn, .string ys, .string yt, .slice B0 p0 q0, .slice B1' p1 q1, .slice B2 p2 q2, .int .i64 k', .int .i64 n', .string s', .string t', .slice A0' n0' m0', .slice A1' n1' m1', .slice A2' n2' m2'] 30)
    rw [World.size_alloc] at hlb
    have hnb3 := ((World.grownBy_alloc (W'.alloc (.cells #[.string yS] 9)) (.cells #[.int .i64 yk, .int .i64 yn, .string ys, .string yt, .slice B0 p0 q0, .slice B1' p1 q1, .slice B2 p2 q2, .int .i64 k', .int .i64 n', .string s', .string t', .slice A0' n0' m0', .slice A1' n1' m1', .slice A2' n2' m2'] 30) none).block W'.heap.size (by simp) (by simp)).trans hnb
    obtain ⟨W3, hW3⟩ : ∃ W3, ((W'.alloc (.cells #[.string yS] 9)).alloc (.cells #[.int .i64 yk, .int .i64 yn, .string ys, .string yt, .slice B0 p0 q0, .slice B1' p1 q1, .slice B2 p2 q2, .int .i64 k', .int .i64 n', .string s', .string t', .slice A0' n0' m0', .slice A1' n1' m1', .slice A2' n2' m2'] 30)) = W3 := ⟨_, rfl⟩
    have hG3 := HG3.out
    have h13 := H13.out
    have hz3 : W3.heap.size = W'.heap.size + 2 := by rw [← hW3]; simp
    rw [hW3] at hG3 h13 hnb3 hlb ⊢
    clear hW3 hnb v0 v1 v2 v3 v4 v5 v6 s0 s1 s2 s3 s4 s5 s6 H13 HG3 u0 u1 u2 u3 u4 u5 u6 r0 r1 r2 r3 r4 r5 r6 d0 d1 d2 d3 d4 d5 d6 d7
    have hset := set7_grown W3 (w.heap.size + 1 + 1) (.int .i64 6) (.int .i64 0) (.string ⟨#[]⟩) (.string ⟨#[]⟩) (.slice (some ⟨W'.heap.size, 0, none⟩) 1 1) (.slice (some ⟨W'.heap.size + 1, 0, none⟩) 2 2) (.slice none 0 0)
    have hk3 : KC (fun z => z ≠ w.heap.size + 1 ∧ z ≠ w.heap.size + 1 + 1) W' (set7 W3 (w.heap.size + 1 + 1) (.int .i64 6) (.int .i64 0) (.string ⟨#[]⟩) (.string ⟨#[]⟩) (.slice (some ⟨W'.heap.size, 0, none⟩) 1 1) (.slice (some ⟨W'.heap.size + 1, 0, none⟩) 2 2) (.slice none 0 0)) := (KC.of_grown hG3 (fun _ _ => by simp)).trans (KC.of_grown hset (fun z hz e => hz.2 (Option.some.inj e)))
    obtain ⟨x7, ex, hoS, hre⟩ := HX.out
    simp only [List.cons.injEq, Value.string.injEq] at ex
    obtain ⟨hyS, rfl⟩ := ex
    have hb3 : Below w.heap.size w (set7 W3 (w.heap.size + 1 + 1) (.int .i64 6) (.int .i64 0) (.string ⟨#[]⟩) (.string ⟨#[]⟩) (.slice (some ⟨W'.heap.size, 0, none⟩) 1 1) (.slice (some ⟨W'.heap.size + 1, 0, none⟩) 2 2) (.slice none 0 0)) := (H4.out.grown hG3 H4.out.size (fun j e => by cases e)).grown hset (Nat.le_trans H4.out.size hG3.size) (fun j e => by have := Option.some.inj e; omega)
    have hEq : nestP (List.map El.x (ps ++ [(⟨d, xx, _, xrep, xmem⟩ : El (DfC (fun z => z ≠ w.heap.size + 1 ∧ z ≠ w.heap.size + 1 + 1) W2) (· ∈ pd))])).reverse pm = .mk 6 0 [] [] [xx.1] [xx.2, nestP (ps.map El.x).reverse pm] [] [] := by
      rw [List.map_append, List.reverse_append]; rfl
    have hzf : (set7 W3 (w.heap.size + 1 + 1) (.int .i64 6) (.int .i64 0) (.string ⟨#[]⟩) (.string ⟨#[]⟩) (.slice (some ⟨W'.heap.size, 0, none⟩) 1 1) (.slice (some ⟨W'.heap.size + 1, 0, none⟩) 2 2) (.slice none 0 0)).heap.size = W3.heap.size := by simp [set7, World.setCell]
    have q1' : (set7 W3 (w.heap.size + 1 + 1) (.int .i64 6) (.int .i64 0) (.string ⟨#[]⟩) (.string ⟨#[]⟩) (.slice (some ⟨W'.heap.size, 0, none⟩) 1 1) (.slice (some ⟨W'.heap.size + 1, 0, none⟩) 2 2) (.slice none 0 0)).cell? ⟨W'.heap.size, 0, none⟩ = some (.string (strB xx.1)) := by
      rw [cell_of_row _ _ 0 _ _ (0, 0) ((hset.block W'.heap.size (by omega) (by simp; omega)).trans hnb3), hyS]; rfl
    have q2' : W'.heap.size < (set7 W3 (w.heap.size + 1 + 1) (.int .i64 6) (.int .i64 0) (.string ⟨#[]⟩) (.string ⟨#[]⟩) (.slice (some ⟨W'.heap.size, 0, none⟩) 1 1) (.slice (some ⟨W'.heap.size + 1, 0, none⟩) 2 2) (.slice none 0 0)).heap.size := by omega
    have q3' : W'.heap.size + 1 < (set7 W3 (w.heap.size + 1 + 1) (.int .i64 6) (.int .i64 0) (.string ⟨#[]⟩) (.string ⟨#[]⟩) (.slice (some ⟨W'.heap.size, 0, none⟩) 1 1) (.slice (some ⟨W'.heap.size + 1, 0, none⟩) 2 2) (.slice none 0 0)).heap.size := by omega
    have q4' : CellsAt (set7 W3 (w.heap.size + 1 + 1) (.int .i64 6) (.int .i64 0) (.string ⟨#[]⟩) (.string ⟨#[]⟩) (.slice (some ⟨W'.heap.size, 0, none⟩) 1 1) (.slice (some ⟨W'.heap.size + 1, 0, none⟩) 2 2) (.slice none 0 0)) (W'.heap.size + 1) 0 ([.int .i64 yk, .int .i64 yn, .string ys, .string yt, .slice B0 p0 q0, .slice B1' p1 q1, .slice B2 p2 q2] ++ [.int .i64 k', .int .i64 n', .string s', .string t', .slice A0' n0' m0', .slice A1' n1' m1', .slice A2' n2' m2']) := fun i v hi => by
      rw [cell_of_row _ _ (0 + i) _ _ (0, 0) ((hset.block (W'.heap.size + 1) (by omega) (by simp; omega)).trans hlb), Nat.zero_add]
      simpa using hi
    refine ⟨(KeepsFrom.of_grownBy hG3 (fun j e => by cases e)).trans (KeepsFrom.of_grownBy hset (fun j e => by have := Option.some.inj e; omega)), hk3, _, _, _, _, _, _, _, _, _, _, _, _, _, h13.all _ _ _ _ _ _ _, ?_, H3.out.trans hk3, hb3, (H5.out.kept hG3 (by simp)).kept hset (by simp)⟩
    rw [hEq]
    exact rep_let hoS (hre.keepC hk3) (H2.out.keepC hk3) q1' ⟨⟨by omega, by omega⟩, q2'⟩ ⟨⟨by omega, by omega⟩, q3'⟩ q4'
  case done =>
    rintro D ys W' hD hS ⟨k', n', s', t', A0', n0', m0', A1', n1', m1', A2', n2', m2', h1, h2, h3, h4, h5⟩ hKD
    rw [hS, List.reverse_reverse] at h2
    have u0 := h1.c0
    have u1 := h1.c1
    have u2 := h1.c2
    have u3 := h1.c3
    have u4 := h1.c4
    have u5 := h1.c5
    have u6 := h1.c6
    have v0 := h5.c0
    have s0 := h5.fr 0
    have v1 := h5.c1
    have s1 := h5.fr 1
    have v2 := h5.c2
    have s2 := h5.fr 2
    have v3 := h5.c3
    have s3 := h5.fr 3
    have v4 := h5.c4
    have s4 := h5.fr 4
    have v5 := h5.c5
    have s5 := h5.fr 5
    have v6 := h5.c6
    have s6 := h5.fr 6
    have H2 := Lib.hid h2
    have H4 := Lib.hid h4
    have H5 := Lib.hid h5
    have HKD := Lib.hid hKD
    clear h1 h2 h3 h4 h5 hS hKD
    gi_wp2
    have hset := set7_grown W' (w.heap.size + 1) (.int .i64 k') (.int .i64 n') (.string s') (.string t') (.slice A0' n0' m0') (.slice A1' n1' m1') (.slice A2' n2' m2')
    have hKD' := (KeepsFrom.of_grownBy (B := D) hset (fun j e => by have := Option.some.inj e; omega)).same D _ (Nat.le_refl _) HKD.out rfl
    have hb := H4.out.grown hset H4.out.size (fun j e => by have := Option.some.inj e; omega)
    have hpo := grownBy_putObj' (set7 W' (w.heap.size + 1) (.int .i64 k') (.int .i64 n') (.string s') (.string t') (.slice A0' n0' m0') (.slice A1' n1' m1') (.slice A2' n2' m2')) D (.deferred none)
    refine ⟨by simp, .inl ⟨_, _, rfl, run_takeDeferred hKD', ?_⟩⟩
    exact ⟨_, res_nest rfl ((H5.out.all _ _ _ _ _ _ _).kept hpo (by simp; omega)), _, _, _, _, _, _, _, _, _, _, _, _, _, rfl, ((H2.out.keepC (KC.of_grown hset (fun z hz e => hz.1 (Option.some.inj e)))).weaken (fun _ _ => trivial)).keepC (KC.putObj _ hKD' rfl), hb.grown hpo hb.size (fun j e => by have := Option.some.inj e; omega)⟩
  case stop => exact fun _ _ _ _ _ _ h => h.elim
end Go.Proofs.YtbmicnajedeenaaGreatDoor
/- The program's check of a program. -/
namespace Go.Proofs.YtbmicnajedeenaaGreatDoor
open Go.RowKit Go.Shelf

def ckPg (p : Pg) : Int := if 12 < p.ds.length ∨ 12 < p.fs.length ∨ 60 < p.dfs.length then 3 else if firstE dtP p.ds = 0 then (if firstE efP p.fs = 0 then (msd chkN (nestP p.dfs p.m)).2.2 else firstE efP p.fs) else firstE dtP p.ds
/-- the heights of a program's trees are bounded -/
structure PgH (p : Pg) : Prop where
  hd : ∀ d ∈ p.ds, ∀ y ∈ d.2.2, ∀ z ∈ y.2, hT z ≤ 900000
  hf : ∀ f ∈ p.fs, ∀ y ∈ f.2, hT y.2.1 ≤ 900000 ∧ hT y.2.2.1 ≤ 900000
  hn : hE (nestP p.dfs p.m) ≤ 900000
set_option maxRecDepth 100000 in
set_option maxHeartbeats 8000000 in
theorem CheckProgram_any (p : Pg) (hH : PgH p) (A : Option Addr) (a ca : Nat) (B : Option Addr) (b cb : Nat) (C : Option Addr) (c cc : Nat) (k n : Int) (s t : ByteArray) (A0 : Option Addr) (n0 m0 : Nat) (A1 : Option Addr) (n1 m1 : Nat) (A2 : Option Addr) (n2 m2 : Nat) (w : World) (hp : RepG (fun _ => True) w p [.slice A a ca, .slice B b cb, .slice C c cc, .int .i64 k, .int .i64 n, .string s, .string t, .slice A0 n0 m0, .slice A1 n1 m1, .slice A2 n2 m2]) (hu : Uses w) (hut : UsesT w) :
    Calls Tryz.prog 7 #[.agg #[.slice A a ca, .slice B b cb, .slice C c cc, .int .i64 k, .int .i64 n, .string s, .string t, .slice A0 n0 m0, .slice A1 n1 m1, .slice A2 n2 m2]] w fun e w' => e = .returned (.int .i64 (ckPg p)) ∧ Below w.heap.size w w' := by
  have HN := Lib.hid (fun w' (hb : Below w.heap.size w w') => nest_any p A a ca B b cb C c cc k n s t A0 n0 m0 A1 n1 m1 A2 n2 m2 w' (hp.keepC (KC.of_same hb)))
  have HCk : Hid (∀ (k n : Int) (s t : ByteArray) (A0 : Option Addr) (n0 c0 : Nat) (A1 : Option Addr) (n1 c1 : Nat) (A2 : Option Addr) (n2 c2 : Nat) (w' : World), Below w.heap.size w w' → RepE (fun _ => True) w' (nestP p.dfs p.m) [.int .i64 k, .int .i64 n, .string s, .string t, .slice A0 n0 c0, .slice A1 n1 c1, .slice A2 n2 c2] →
      Calls Tryz.prog 11 #[.agg #[.int .i64 k, .int .i64 n, .string s, .string t, .slice A0 n0 c0, .slice A1 n1 c1, .slice A2 n2 c2]] w' fun r w2 => r = .returned (.int .i64 (msd chkN (nestP p.dfs p.m)).2.2) ∧ Below w'.heap.size w' w2) :=
    Lib.hid (fun k n s t A0 n0 c0 A1 n1 c1 A2 n2 c2 w' hb hr => Check_any chkN (Lib.hid chkN_says) _ _ k n s t A0 n0 c0 A1 n1 c1 A2 n2 c2 w' hr hH.hn (hu.below hb))
  obtain ⟨pd, pf, pg, pm⟩ := p
  obtain ⟨A', d1, B', d2, C', d3, c7, e, ⟨hc1, hc2, hc3⟩, hD, hF, hG, hm⟩ := hp
  simp only [List.cons.injEq, Value.slice.injEq] at e
  obtain ⟨⟨rfl, e1, rfl⟩, ⟨rfl, e2, rfl⟩, ⟨rfl, e3, rfl⟩, rfl⟩ := e
  dsimp only at e1 e2 e3 hc1 hc2 hc3 hD hF
  have l1 : a ≤ maxLen := by rw [e1]; exact Nat.le_trans hc1.1 hc1.2
  have l2 : b ≤ maxLen := by rw [e2]; exact Nat.le_trans hc2.1 hc2.2
  have l3 : c ≤ maxLen := by rw [e3]; exact Nat.le_trans hc3.1 hc3.2
  have HA := Lib.hid (fun w => allOfD A a ca w)
  have HE := Lib.hid (fun w => allOfE B b cb w)
  have HFd := Lib.hid (firstRowD_any dtP A a ca pd (fun _ => True) w hD e1 l1 (fun y hy P' S A0 n0 m0 A1 n1 m1 w' hb hr => checkData_any P' y S A0 n0 m0 A1 n1 m1 w' hr (hH.hd y hy) (hut.below hb)))
  have HFe := Lib.hid (firstRowE_any efP B b cb pf (fun _ => True) w hF e2 l2 (fun y hy P' S A0 n0 m0 w' hb hr => checkEffect_any P' y S A0 n0 m0 w' hr (hH.hf y hy) (hut.below hb)))
  obtain ⟨V, hV⟩ : ∃ V, V = firstE dtP pd := ⟨_, rfl⟩
  obtain ⟨U, hU⟩ : ∃ V, V = firstE efP pf := ⟨_, rfl⟩
  obtain ⟨Z, hZ⟩ : ∃ V, V = (msd chkN (nestP pg pm)).2.2 := ⟨_, rfl⟩
  obtain ⟨R, hR⟩ : ∃ R, R = ckPg ⟨pd, pf, pg, pm⟩ := ⟨_, rfl⟩
  have HR : Hid (R = if 12 < a ∨ 12 < b ∨ 60 < c then 3 else if V = 0 then (if U = 0 then Z else U) else V) := Lib.hid (by rw [hR, hV, hU, hZ, e1, e2, e3]; rfl)
  rw [← hV] at HFd
  rw [← hU] at HFe
  rw [← hZ] at HCk
  rw [← hR]
  unfold maxLen at l1 l2 l3
  obtain ⟨W1, hW1⟩ : ∃ W1, w.alloc (.cells #[.slice A a ca, .slice B b cb, .slice C c cc, .int .i64 k, .int .i64 n, .string s, .string t, .slice A0 n0 m0, .slice A1 n1 m1, .slice A2 n2 m2] 32) = W1 := ⟨_, rfl⟩
  have HB1 : Hid (Below w.heap.size w W1) := Lib.hid (by rw [← hW1]; exact (Below.refl _ _).alloc (Nat.le_refl _) _)
  have hx : W1.heap[w.heap.size]? = some (.cells #[.slice A a ca, .slice B b cb, .slice C c cc, .int .i64 k, .int .i64 n, .string s, .string t, .slice A0 n0 m0, .slice A1 n1 m1, .slice A2 n2 m2] 32 (0, 0)) := by rw [← hW1]; exact heap_alloc_new w _
  have hxl : w.heap.size < W1.heap.size := (Array.getElem?_eq_some_iff.1 hx).1
  have HX : Hid (∀ wr, Below W1.heap.size W1 wr → wr.heap[w.heap.size]? = some (.cells #[.slice A a ca, .slice B b cb, .slice C c cc, .int .i64 k, .int .i64 n, .string s, .string t, .slice A0 n0 m0, .slice A1 n1 m1, .slice A2 n2 m2] 32 (0, 0))) := Lib.hid (fun wr hb => (hb.block _ hxl).trans hx)
  have HW : Hid (∀ wr, Below W1.heap.size W1 wr → Below w.heap.size w wr) := Lib.hid (fun wr hb => HB1.out.trans (hb.mono HB1.out.size))
  have x0 := cell_of_row W1 w.heap.size 0 _ _ (0, 0) hx
  have x1 := cell_of_row W1 w.heap.size 1 _ _ (0, 0) hx
  have x2 := cell_of_row W1 w.heap.size 2 _ _ (0, 0) hx
  have x3 := cell_of_row W1 w.heap.size 3 _ _ (0, 0) hx
  have x4 := cell_of_row W1 w.heap.size 4 _ _ (0, 0) hx
  have x5 := cell_of_row W1 w.heap.size 5 _ _ (0, 0) hx
  have x6 := cell_of_row W1 w.heap.size 6 _ _ (0, 0) hx
  have x7 := cell_of_row W1 w.heap.size 7 _ _ (0, 0) hx
  have x8 := cell_of_row W1 w.heap.size 8 _ _ (0, 0) hx
  have x9 := cell_of_row W1 w.heap.size 9 _ _ (0, 0) hx
  simp only [List.getElem?_toArray, List.getElem?_cons_zero, List.getElem?_cons_succ] at x0 x1 x2 x3 x4 x5 x6 x7 x8 x9
  clear hV hU hZ hR hD hF hG hm hc1 hc2 hc3 hx e1 e2 e3 hu hut hH
  by_cases h1 : 12 < a ∨ 12 < b ∨ 60 < c
  · have HRf : Hid (R = 3) := Lib.hid (by rw [HR.out, if_pos h1])
    clear HR
    by_cases h2 : 12 < a
    · have g1 : decide ((12 : Int) < (a : Int)) = true := decide_eq_true (by omega)
      clear h1 h2
      go_enter Tryz.func7, Tryz.ntmps7
      go_wp2_with fail
      go_ret
      exact ⟨by rw [HRf.out]; rfl, HB1.out⟩
    by_cases h3 : 12 < b
    · have g1 : decide ((12 : Int) < (a : Int)) = false := decide_eq_false (by omega)
      have g2 : decide ((12 : Int) < (b : Int)) = true := decide_eq_true (by omega)
      clear h1 h2 h3
      go_enter Tryz.func7, Tryz.ntmps7
      go_wp2_with fail
      go_ret
      exact ⟨by rw [HRf.out]; rfl, HB1.out⟩
    · have g1 : decide ((12 : Int) < (a : Int)) = false := decide_eq_false (by omega)
      have g2 : decide ((12 : Int) < (b : Int)) = false := decide_eq_false (by omega)
      have g3 : decide ((60 : Int) < (c : Int)) = true := decide_eq_true (by omega)
      clear h1 h2 h3
      go_enter Tryz.func7, Tryz.ntmps7
      go_wp2_with fail
      go_ret
      exact ⟨by rw [HRf.out]; rfl, HB1.out⟩
  have g1 : decide ((12 : Int) < (a : Int)) = false := decide_eq_false (by omega)
  have g2 : decide ((12 : Int) < (b : Int)) = false := decide_eq_false (by omega)
  have g3 : decide ((60 : Int) < (c : Int)) = false := decide_eq_false (by omega)
  have HR2 : Hid (R = if V = 0 then (if U = 0 then Z else U) else V) := Lib.hid (by rw [HR.out, if_neg h1])
  clear HR h1
  go_enter Tryz.func7, Tryz.ntmps7
  go_wp2_with fail
  clear hW1
  refine (HA.out _).mono ?_
  rintro e w2 ⟨rfl, rfl⟩
  go_wp2_with fail
  refine (HFd.out _ HB1.out).mono ?_
  rintro e w3 ⟨rfl, hb⟩
  have HB3 := Lib.hid hb
  clear hb x0 x1 x2 x3 x4 x5 x6 x7 x8 x9
  by_cases he : V = 0
  · subst he
    have HR3 : Hid (R = if U = 0 then Z else U) := Lib.hid (by rw [HR2.out, if_pos rfl])
    clear HR2
    have x0 := cell_of_row w3 w.heap.size 0 _ _ (0, 0) (HX.out _ HB3.out)
    have x1 := cell_of_row w3 w.heap.size 1 _ _ (0, 0) (HX.out _ HB3.out)
    have x2 := cell_of_row w3 w.heap.size 2 _ _ (0, 0) (HX.out _ HB3.out)
    have x3 := cell_of_row w3 w.heap.size 3 _ _ (0, 0) (HX.out _ HB3.out)
    have x4 := cell_of_row w3 w.heap.size 4 _ _ (0, 0) (HX.out _ HB3.out)
    have x5 := cell_of_row w3 w.heap.size 5 _ _ (0, 0) (HX.out _ HB3.out)
    have x6 := cell_of_row w3 w.heap.size 6 _ _ (0, 0) (HX.out _ HB3.out)
    have x7 := cell_of_row w3 w.heap.size 7 _ _ (0, 0) (HX.out _ HB3.out)
    have x8 := cell_of_row w3 w.heap.size 8 _ _ (0, 0) (HX.out _ HB3.out)
    have x9 := cell_of_row w3 w.heap.size 9 _ _ (0, 0) (HX.out _ HB3.out)
    simp only [List.getElem?_toArray, List.getElem?_cons_zero, List.getElem?_cons_succ] at x0 x1 x2 x3 x4 x5 x6 x7 x8 x9
    go_wp2_with fail
    refine (HE.out _).mono ?_
    rintro e w4 ⟨rfl, rfl⟩
    go_wp2_with fail
    refine (HFe.out _ (HW.out _ HB3.out)).mono ?_
    rintro e w5 ⟨rfl, hb⟩
    have HB5 := Lib.hid (HB3.out.trans (hb.mono HB3.out.size))
    clear hb x0 x1 x2 x3 x4 x5 x6 x7 x8 x9
    by_cases hf : U = 0
    · subst hf
      have HRf : Hid (R = Z) := Lib.hid (by rw [HR3.out, if_pos rfl])
      clear HR3
      have x0 := cell_of_row w5 w.heap.size 0 _ _ (0, 0) (HX.out _ HB5.out)
      have x1 := cell_of_row w5 w.heap.size 1 _ _ (0, 0) (HX.out _ HB5.out)
      have x2 := cell_of_row w5 w.heap.size 2 _ _ (0, 0) (HX.out _ HB5.out)
      have x3 := cell_of_row w5 w.heap.size 3 _ _ (0, 0) (HX.out _ HB5.out)
      have x4 := cell_of_row w5 w.heap.size 4 _ _ (0, 0) (HX.out _ HB5.out)
      have x5 := cell_of_row w5 w.heap.size 5 _ _ (0, 0) (HX.out _ HB5.out)
      have x6 := cell_of_row w5 w.heap.size 6 _ _ (0, 0) (HX.out _ HB5.out)
      have x7 := cell_of_row w5 w.heap.size 7 _ _ (0, 0) (HX.out _ HB5.out)
      have x8 := cell_of_row w5 w.heap.size 8 _ _ (0, 0) (HX.out _ HB5.out)
      have x9 := cell_of_row w5 w.heap.size 9 _ _ (0, 0) (HX.out _ HB5.out)
      simp only [List.getElem?_toArray, List.getElem?_cons_zero, List.getElem?_cons_succ] at x0 x1 x2 x3 x4 x5 x6 x7 x8 x9
      go_wp2_with fail
      refine (HN.out _ (HW.out _ HB5.out)).mono ?_
      rintro e w6 ⟨k', n', s', t', A0', n0', m0', A1', n1', m1', A2', n2', m2', rfl, hr, hb⟩
      have HB6 := Lib.hid (HB5.out.trans (hb.mono HB5.out.size))
      have HRe := Lib.hid hr
      clear hb hr x0 x1 x2 x3 x4 x5 x6 x7 x8 x9
      go_wp2_with fail
      refine (HCk.out _ _ _ _ _ _ _ _ _ _ _ _ _ _ (HW.out _ HB6.out) HRe.out).mono ?_
      rintro e w7 ⟨rfl, hb⟩
      have HB7 := Lib.hid (HB6.out.trans (hb.mono HB6.out.size))
      clear hb
      go_wp2_with fail
      go_ret
      exact ⟨by rw [HRf.out]; rfl, HW.out _ HB7.out⟩
    · have hqb : (U == 0) = false := beq_eq_false_iff_ne.2 hf
      have hqc : (U != 0) = true := by simp [hf]
      have HRf : Hid (R = U) := Lib.hid (by rw [HR3.out, if_neg hf])
      clear HR3
      go_wp2_with fail
      go_ret
      exact ⟨by rw [HRf.out]; rfl, HW.out _ HB5.out⟩
  · have hqb : (V == 0) = false := beq_eq_false_iff_ne.2 he
    have hqc : (V != 0) = true := by simp [he]
    have HRf : Hid (R = V) := Lib.hid (by rw [HR2.out, if_neg he])
    clear HR2
    go_wp2_with fail
    go_ret
    exact ⟨by rw [HRf.out]; rfl, HW.out _ HB3.out⟩
end Go.Proofs.YtbmicnajedeenaaGreatDoor
/- Copies of a node's lists. -/
namespace Go.Proofs.YtbmicnajedeenaaGreatDoor
open Go.RowKit

theorem infoN2 : (Tryz.prog.info? 9).map (fun i => (i.zero, i.size, i.bytes)) = some (some (.string ⟨#[]⟩), 1, 16) := by kernel_rfl
theorem infoEx2 : (Tryz.prog.info? 30).map (fun i => (i.zero, i.size, i.bytes)) = some (some (.agg #[.int .i64 0, .int .i64 0, .string ⟨#[]⟩, .string ⟨#[]⟩, .slice none 0 0, .slice none 0 0, .slice none 0 0]), 7, 120) := by kernel_rfl
theorem infoAm2 : (Tryz.prog.info? 83).map (fun i => (i.zero, i.size, i.bytes)) = some (some (.agg #[.string ⟨#[]⟩, .slice none 0 0, .int .i64 0, .int .i64 0, .string ⟨#[]⟩, .string ⟨#[]⟩, .slice none 0 0, .slice none 0 0, .slice none 0 0]), 9, 160) := by kernel_rfl
set_option maxRecDepth 100000 in
set_option maxHeartbeats 2000000 in
theorem cloneS_any (A : Option Addr) (n c : Nat) (cs : List Value) (w : World) (hn : n ≤ 1000) (hl : cs.length = n * 1) (h1 : ∀ u ∈ cs, u.oneCell' = true) (h0 : A = none → n = 0) (hc : n ≠ 0 → ∃ b off, A = some ⟨b, off, none⟩ ∧ CellsAt w b off cs) :
    Calls Tryz.prog 34 #[.slice A n c] w fun e w' => ∃ v', e = .returned v' ∧ w'.ownsRow w.heap.size 9 1 v' n cs ∧ Below w.heap.size w w' := by
  obtain ⟨i0, hi, hz0, hz1, hz2⟩ := info_parts infoN2
  have q22 : ∀ (w : World) (a : Option Addr) (n c n' c' : Nat), (binOp .eql 26 (.slice a n c) (.slice none n' c')).run Tryz.prog w = .ok (.bool a.isNone) w := fun w a n c n' c' => Lib.run_eql_slice_nil w _ _ a n c n' c' Tryz.underlying26
  have u22 : ∀ w, Sem.run Tryz.prog (underlying 26) w = .ok (TypeDesc.slice 9) w := run_underlying Tryz.underlying26
  cases A with
  | none =>
    obtain rfl : n = 0 := h0 rfl
    have hnil : cs = [] := List.length_eq_zero_iff.1 (by omega)
    subst hnil
    clear hc h1 hl h0 hn
    go_enter Tryz.func34, Tryz.ntmps34
    go_wp2_with fail
    go_ret
    exact ⟨_, rfl, World.ownsRow_nil _ _ _ _, Below.refl _ _⟩
  | some a =>
    have HC : Hid (∀ (w' : World), Below w.heap.size w w' → ∀ j u, cs[j]? = some u → w'.cell? (a.add j) = some u) := Lib.hid (fun w' hb j u hj => by
      have hjl := (List.getElem?_eq_some_iff.1 hj).1
      obtain ⟨b, off, e, hca⟩ := hc (by rintro rfl; omega)
      obtain rfl := Option.some.inj e
      have hx := hca j u hj
      have hlt : b < w.heap.size := by
        unfold World.cell? at hx
        cases hq : w.heap[b]? with
        | none => simp [hq] at hx
        | some o => exact (Array.getElem?_eq_some_iff.1 hq).1
      rw [add_off]
      exact (hb.cell (p := ⟨b, off + j, none⟩) hlt).trans hx)
    have H1 := Lib.hid h1
    have HLn := Lib.hid hl
    clear hc h1 h0 hl
    go_enter Tryz.func34, Tryz.ntmps34
    go_wp2_with (at_builtin; refine wpList_append_own _ rfl _ _ 26 rfl w.heap.size 9 i0 (.string ⟨#[]⟩) 1 16 Tryz.underlying26 hi hz0 hz1 hz2 rfl (by decide) _ _ _ rfl (World.ownsRow_made w #[] 0 (Nat.le_refl _) (Nat.zero_le _) rfl) a n c cs rfl (by rw [HLn.out]) (HC.out _ ((Below.refl _ _).alloc (Nat.le_refl _) _)) H1.out (by unfold maxLen; omega) (by omega) (by simp) ?_; intro v' w1 hown hgrow hnil)
    have HO := Lib.hid hown
    have HB := Lib.hid (((Below.refl _ w).alloc (Nat.le_refl _) _).grown hgrow (by simp) (fun k hk => Nat.le_of_eq (Option.some.inj hk)))
    clear hown hgrow hnil
    go_wp2_with fail
    go_ret
    exact ⟨v', rfl, by simpa using HO.out, HB.out⟩
set_option maxRecDepth 100000 in
set_option maxHeartbeats 2000000 in
theorem cloneX_any (A : Option Addr) (n c : Nat) (cs : List Value) (w : World) (hn : n ≤ 1000) (hl : cs.length = n * 7) (h1 : ∀ u ∈ cs, u.oneCell' = true) (h0 : A = none → n = 0) (hc : n ≠ 0 → ∃ b off, A = some ⟨b, off, none⟩ ∧ CellsAt w b off cs) :
    Calls Tryz.prog 35 #[.slice A n c] w fun e w' => ∃ v', e = .returned v' ∧ w'.ownsRow w.heap.size 30 7 v' n cs ∧ Below w.heap.size w w' := by
  obtain ⟨i0, hi, hz0, hz1, hz2⟩ := info_parts infoEx2
  have q22 : ∀ (w : World) (a : Option Addr) (n c n' c' : Nat), (binOp .eql 27 (.slice a n c) (.slice none n' c')).run Tryz.prog w = .ok (.bool a.isNone) w := fun w a n c n' c' => Lib.run_eql_slice_nil w _ _ a n c n' c' Tryz.underlying27
  have u22 : ∀ w, Sem.run Tryz.prog (underlying 27) w = .ok (TypeDesc.slice 30) w := run_underlying Tryz.underlying27
  cases A with
  | none =>
    obtain rfl : n = 0 := h0 rfl
    have hnil : cs = [] := List.length_eq_zero_iff.1 (by omega)
    subst hnil
    clear hc h1 hl h0 hn
    go_enter Tryz.func35, Tryz.ntmps35
    go_wp2_with fail
    go_ret
    exact ⟨_, rfl, World.ownsRow_nil _ _ _ _, Below.refl _ _⟩
  | some a =>
    have HC : Hid (∀ (w' : World), Below w.heap.size w w' → ∀ j u, cs[j]? = some u → w'.cell? (a.add j) = some u) := Lib.hid (fun w' hb j u hj => by
      have hjl := (List.getElem?_eq_some_iff.1 hj).1
      obtain ⟨b, off, e, hca⟩ := hc (by rintro rfl; omega)
      obtain rfl := Option.some.inj e
      have hx := hca j u hj
      have hlt : b < w.heap.size := by
        unfold World.cell? at hx
        cases hq : w.heap[b]? with
        | none => simp [hq] at hx
        | some o => exact (Array.getElem?_eq_some_iff.1 hq).1
      rw [add_off]
      exact (hb.cell (p := ⟨b, off + j, none⟩) hlt).trans hx)
    have H1 := Lib.hid h1
    have HLn := Lib.hid hl
    clear hc h1 h0 hl
    go_enter Tryz.func35, Tryz.ntmps35
    go_wp2_with (at_builtin; refine wpList_append_own _ rfl _ _ 27 rfl w.heap.size 30 i0 (.agg #[.int .i64 0, .int .i64 0, .string ⟨#[]⟩, .string ⟨#[]⟩, .slice none 0 0, .slice none 0 0, .slice none 0 0]) 7 120 Tryz.underlying27 hi hz0 hz1 hz2 rfl (by decide) _ _ _ rfl (World.ownsRow_made w #[] 0 (Nat.le_refl _) (Nat.zero_le _) rfl) a n c cs rfl (by rw [HLn.out]) (HC.out _ ((Below.refl _ _).alloc (Nat.le_refl _) _)) H1.out (by unfold maxLen; omega) (by omega) (by simp) ?_; intro v' w1 hown hgrow hnil)
    have HO := Lib.hid hown
    have HB := Lib.hid (((Below.refl _ w).alloc (Nat.le_refl _) _).grown hgrow (by simp) (fun k hk => Nat.le_of_eq (Option.some.inj hk)))
    clear hown hgrow hnil
    go_wp2_with fail
    go_ret
    exact ⟨v', rfl, by simpa using HO.out, HB.out⟩
set_option maxRecDepth 100000 in
set_option maxHeartbeats 2000000 in
theorem cloneA_any (A : Option Addr) (n c : Nat) (cs : List Value) (w : World) (hn : n ≤ 1000) (hl : cs.length = n * 9) (h1 : ∀ u ∈ cs, u.oneCell' = true) (h0 : A = none → n = 0) (hc : n ≠ 0 → ∃ b off, A = some ⟨b, off, none⟩ ∧ CellsAt w b off cs) :
    Calls Tryz.prog 36 #[.slice A n c] w fun e w' => ∃ v', e = .returned v' ∧ w'.ownsRow w.heap.size 83 9 v' n cs ∧ Below w.heap.size w w' := by
  obtain ⟨i0, hi, hz0, hz1, hz2⟩ := info_parts infoAm2
  have q22 : ∀ (w : World) (a : Option Addr) (n c n' c' : Nat), (binOp .eql 28 (.slice a n c) (.slice none n' c')).run Tryz.prog w = .ok (.bool a.isNone) w := fun w a n c n' c' => Lib.run_eql_slice_nil w _ _ a n c n' c' Tryz.underlying28
  have u22 : ∀ w, Sem.run Tryz.prog (underlying 28) w = .ok (TypeDesc.slice 83) w := run_underlying Tryz.underlying28
  cases A with
  | none =>
    obtain rfl : n = 0 := h0 rfl
    have hnil : cs = [] := List.length_eq_zero_iff.1 (by omega)
    subst hnil
    clear hc h1 hl h0 hn
    go_enter Tryz.func36, Tryz.ntmps36
    go_wp2_with fail
    go_ret
    exact ⟨_, rfl, World.ownsRow_nil _ _ _ _, Below.refl _ _⟩
  | some a =>
    have HC : Hid (∀ (w' : World), Below w.heap.size w w' → ∀ j u, cs[j]? = some u → w'.cell? (a.add j) = some u) := Lib.hid (fun w' hb j u hj => by
      have hjl := (List.getElem?_eq_some_iff.1 hj).1
      obtain ⟨b, off, e, hca⟩ := hc (by rintro rfl; omega)
      obtain rfl := Option.some.inj e
      have hx := hca j u hj
      have hlt : b < w.heap.size := by
        unfold World.cell? at hx
        cases hq : w.heap[b]? with
        | none => simp [hq] at hx
        | some o => exact (Array.getElem?_eq_some_iff.1 hq).1
      rw [add_off]
      exact (hb.cell (p := ⟨b, off + j, none⟩) hlt).trans hx)
    have H1 := Lib.hid h1
    have HLn := Lib.hid hl
    clear hc h1 h0 hl
    go_enter Tryz.func36, Tryz.ntmps36
    go_wp2_with (at_builtin; refine wpList_append_own _ rfl _ _ 28 rfl w.heap.size 83 i0 (.agg #[.string ⟨#[]⟩, .slice none 0 0, .int .i64 0, .int .i64 0, .string ⟨#[]⟩, .string ⟨#[]⟩, .slice none 0 0, .slice none 0 0, .slice none 0 0]) 9 160 Tryz.underlying28 hi hz0 hz1 hz2 rfl (by decide) _ _ _ rfl (World.ownsRow_made w #[] 0 (Nat.le_refl _) (Nat.zero_le _) rfl) a n c cs rfl (by rw [HLn.out]) (HC.out _ ((Below.refl _ _).alloc (Nat.le_refl _) _)) H1.out (by unfold maxLen; omega) (by omega) (by simp) ?_; intro v' w1 hown hgrow hnil)
    have HO := Lib.hid hown
    have HB := Lib.hid (((Below.refl _ w).alloc (Nat.le_refl _) _).grown hgrow (by simp) (fun k hk => Nat.le_of_eq (Option.some.inj hk)))
    clear hown hgrow hnil
    go_wp2_with fail
    go_ret
    exact ⟨v', rfl, by simpa using HO.out, HB.out⟩
end Go.Proofs.YtbmicnajedeenaaGreatDoor
/- A copy of a tree: rows that are written element by element. -/
namespace Go.Proofs.YtbmicnajedeenaaGreatDoor
open Go.RowKit

/-- a block that holds elements of K cells -/
def RowC (w : World) (g : Nat) (T : TypeId) (K : Nat) (cl : List (List Value)) : Prop :=
  ∃ cur : Array Value, w.heap[g]? = some (.cells cur T (0, 0)) ∧ ∀ (j : Nat) (c : List Value), cl[j]? = some c → c.length = K ∧ ∀ (i : Nat) (v : Value), c[i]? = some v → cur[j * K + i]? = some v
section
variable {w w' : World} {g : Nat} {T : TypeId} {K : Nat} {cl : List (List Value)}
theorem RowC.lt (h : RowC w g T K cl) : g < w.heap.size := by obtain ⟨cur, h1, _⟩ := h; exact (Array.getElem?_eq_some_iff.1 h1).1
theorem RowC.cell (h : RowC w g T K cl) {j : Nat} {c : List Value} (hj : cl[j]? = some c) {i : Nat} {v : Value} (hi : c[i]? = some v) : w.cell? ⟨g, j * K + i, none⟩ = some v := by
  obtain ⟨cur, h1, h2⟩ := h
  rw [cell_of_row w g (j * K + i) _ _ (0, 0) h1]
  exact (h2 j c hj).2 i v hi
theorem RowC.fr (h : RowC w g T K cl) (i : Nat) : w.frozen? ⟨g, i, none⟩ = false := by
  obtain ⟨cur, h1, _⟩ := h
  simp [World.frozen?, h1]
theorem RowC.kept (h : RowC w g T K cl) {row : Option Nat} (hg : w.grownBy w' row) (hne : some g ≠ row) : RowC w' g T K cl := by
  obtain ⟨cur, h1, h2⟩ := h
  exact ⟨cur, (hg.block g (Array.getElem?_eq_some_iff.1 h1).1 hne).trans h1, h2⟩
end
def put7 (w : World) (g j : Nat) (u0 u1 u2 u3 u4 u5 u6 : Value) : World := ((((((w.setCell ⟨g, j * 7, none⟩ u0).setCell ⟨g, j * 7 + 1, none⟩ u1).setCell ⟨g, j * 7 + 2, none⟩ u2).setCell ⟨g, j * 7 + 3, none⟩ u3).setCell ⟨g, j * 7 + 4, none⟩ u4).setCell ⟨g, j * 7 + 5, none⟩ u5).setCell ⟨g, j * 7 + 6, none⟩ u6
theorem put7_grown (w : World) (g j : Nat) (u0 u1 u2 u3 u4 u5 u6 : Value) : w.grownBy (put7 w g j u0 u1 u2 u3 u4 u5 u6) (some g) := grown_trans (grown_trans (grown_trans (grown_trans (grown_trans (grown_trans (grown_set w ⟨g, j * 7, none⟩ u0) (grown_set _ ⟨g, j * 7 + 1, none⟩ u1)) (grown_set _ ⟨g, j * 7 + 2, none⟩ u2)) (grown_set _ ⟨g, j * 7 + 3, none⟩ u3)) (grown_set _ ⟨g, j * 7 + 4, none⟩ u4)) (grown_set _ ⟨g, j * 7 + 5, none⟩ u5)) (grown_set _ ⟨g, j * 7 + 6, none⟩ u6)
theorem RowC.put7 {w : World} {g : Nat} {T : TypeId} {cl : List (List Value)} (h : RowC w g T 7 cl) {j : Nat} (hj : j < cl.length) (u0 u1 u2 u3 u4 u5 u6 : Value) : RowC (Proofs.YtbmicnajedeenaaGreatDoor.put7 w g j u0 u1 u2 u3 u4 u5 u6) g T 7 (cl.set j [u0, u1, u2, u3, u4, u5, u6]) := by
  obtain ⟨cur, h1, h2⟩ := h
  obtain ⟨hl, hc⟩ := h2 j _ (List.getElem?_eq_getElem hj)
  have hsz : j * 7 + 6 < cur.size := (Array.getElem?_eq_some_iff.1 (hc 6 _ (List.getElem?_eq_getElem (by omega)))).1
  refine ⟨((((((cur.setIfInBounds (j * 7) u0).setIfInBounds (j * 7 + 1) u1).setIfInBounds (j * 7 + 2) u2).setIfInBounds (j * 7 + 3) u3).setIfInBounds (j * 7 + 4) u4).setIfInBounds (j * 7 + 5) u5).setIfInBounds (j * 7 + 6) u6, by unfold Proofs.YtbmicnajedeenaaGreatDoor.put7; simp [World.setCell, Array.getElem?_modify, h1], fun j' c hjc => ?_⟩
  rw [List.getElem?_set] at hjc
  by_cases e : j = j'
  · subst e
    rw [if_pos rfl, if_pos hj] at hjc
    obtain rfl := Option.some.inj hjc
    refine ⟨rfl, fun i v hi => ?_⟩
    match i, hi with
    | 0, hi => simp at hi; subst hi; simp only [Array.getElem?_setIfInBounds, Array.size_setIfInBounds, Nat.add_zero]; simp; omega
    | 1, hi => simp at hi; subst hi; simp only [Array.getElem?_setIfInBounds, Array.size_setIfInBounds]; simp; omega
    | 2, hi => simp at hi; subst hi; simp only [Array.getElem?_setIfInBounds, Array.size_setIfInBounds]; simp; omega
    | 3, hi => simp at hi; subst hi; simp only [Array.getElem?_setIfInBounds, Array.size_setIfInBounds]; simp; omega
    | 4, hi => simp at hi; subst hi; simp only [Array.getElem?_setIfInBounds, Array.size_setIfInBounds]; simp; omega
    | 5, hi => simp at hi; subst hi; simp only [Array.getElem?_setIfInBounds, Array.size_setIfInBounds]; simp; omega
    | 6, hi => simp at hi; subst hi; simp only [Array.getElem?_setIfInBounds, Array.size_setIfInBounds]; simp; omega
    | i + 7, hi => simp at hi
  · rw [if_neg e] at hjc
    obtain ⟨hl', hc'⟩ := h2 j' c hjc
    refine ⟨hl', fun i v hi => ?_⟩
    have hi7 : i < 7 := by have := (List.getElem?_eq_some_iff.1 hi).1; omega
    have := hc' i v hi
    simp only [Array.getElem?_setIfInBounds, Array.size_setIfInBounds]
    rw [if_neg (by omega)]
    rw [if_neg (by omega)]
    rw [if_neg (by omega)]
    rw [if_neg (by omega)]
    rw [if_neg (by omega)]
    rw [if_neg (by omega)]
    rw [if_neg (by omega)]
    exact this
def put9 (w : World) (g j : Nat) (u0 u1 u2 u3 u4 u5 u6 u7 u8 : Value) : World := ((((((((w.setCell ⟨g, j * 9, none⟩ u0).setCell ⟨g, j * 9 + 1, none⟩ u1).setCell ⟨g, j * 9 + 2, none⟩ u2).setCell ⟨g, j * 9 + 3, none⟩ u3).setCell ⟨g, j * 9 + 4, none⟩ u4).setCell ⟨g, j * 9 + 5, none⟩ u5).setCell ⟨g, j * 9 + 6, none⟩ u6).setCell ⟨g, j * 9 + 7, none⟩ u7).setCell ⟨g, j * 9 + 8, none⟩ u8
theorem put9_grown (w : World) (g j : Nat) (u0 u1 u2 u3 u4 u5 u6 u7 u8 : Value) : w.grownBy (put9 w g j u0 u1 u2 u3 u4 u5 u6 u7 u8) (some g) := grown_trans (grown_trans (grown_trans (grown_trans (grown_trans (grown_trans (grown_trans (grown_trans (grown_set w ⟨g, j * 9, none⟩ u0) (grown_set _ ⟨g, j * 9 + 1, none⟩ u1)) (grown_set _ ⟨g, j * 9 + 2, none⟩ u2)) (grown_set _ ⟨g, j * 9 + 3, none⟩ u3)) (grown_set _ ⟨g, j * 9 + 4, none⟩ u4)) (grown_set _ ⟨g, j * 9 + 5, none⟩ u5)) (grown_set _ ⟨g, j * 9 + 6, none⟩ u6)) (grown_set _ ⟨g, j * 9 + 7, none⟩ u7)) (grown_set _ ⟨g, j * 9 + 8, none⟩ u8)
theorem RowC.put9 {w : World} {g : Nat} {T : TypeId} {cl : List (List Value)} (h : RowC w g T 9 cl) {j : Nat} (hj : j < cl.length) (u0 u1 u2 u3 u4 u5 u6 u7 u8 : Value) : RowC (Proofs.YtbmicnajedeenaaGreatDoor.put9 w g j u0 u1 u2 u3 u4 u5 u6 u7 u8) g T 9 (cl.set j [u0, u1, u2, u3, u4, u5, u6, u7, u8]) := by
  obtain ⟨cur, h1, h2⟩ := h
  obtain ⟨hl, hc⟩ := h2 j _ (List.getElem?_eq_getElem hj)
  have hsz : j * 9 + 8 < cur.size := (Array.getElem?_eq_some_iff.1 (hc 8 _ (List.getElem?_eq_getElem (by omega)))).1
  refine ⟨((((((((cur.setIfInBounds (j * 9) u0).setIfInBounds (j * 9 + 1) u1).setIfInBounds (j * 9 + 2) u2).setIfInBounds (j * 9 + 3) u3).setIfInBounds (j * 9 + 4) u4).setIfInBounds (j * 9 + 5) u5).setIfInBounds (j * 9 + 6) u6).setIfInBounds (j * 9 + 7) u7).setIfInBounds (j * 9 + 8) u8, by unfold Proofs.YtbmicnajedeenaaGreatDoor.put9; simp [World.setCell, Array.getElem?_modify, h1], fun j' c hjc => ?_⟩
  rw [List.getElem?_set] at hjc
  by_cases e : j = j'
  · subst e
    rw [if_pos rfl, if_pos hj] at hjc
    obtain rfl := Option.some.inj hjc
    refine ⟨rfl, fun i v hi => ?_⟩
    match i, hi with
    | 0, hi => simp at hi; subst hi; simp only [Array.getElem?_setIfInBounds, Array.size_setIfInBounds, Nat.add_zero]; simp; omega
    | 1, hi => simp at hi; subst hi; simp only [Array.getElem?_setIfInBounds, Array.size_setIfInBounds]; simp; omega
    | 2, hi => simp at hi; subst hi; simp only [Array.getElem?_setIfInBounds, Array.size_setIfInBounds]; simp; omega
    | 3, hi => simp at hi; subst hi; simp only [Array.getElem?_setIfInBounds, Array.size_setIfInBounds]; simp; omega
    | 4, hi => simp at hi; subst hi; simp only [Array.getElem?_setIfInBounds, Array.size_setIfInBounds]; simp; omega
    | 5, hi => simp at hi; subst hi; simp only [Array.getElem?_setIfInBounds, Array.size_setIfInBounds]; simp; omega
    | 6, hi => simp at hi; subst hi; simp only [Array.getElem?_setIfInBounds, Array.size_setIfInBounds]; simp; omega
    | 7, hi => simp at hi; subst hi; simp only [Array.getElem?_setIfInBounds, Array.size_setIfInBounds]; simp; omega
    | 8, hi => simp at hi; subst hi; simp only [Array.getElem?_setIfInBounds, Array.size_setIfInBounds]; simp; omega
    | i + 9, hi => simp at hi
  · rw [if_neg e] at hjc
    obtain ⟨hl', hc'⟩ := h2 j' c hjc
    refine ⟨hl', fun i v hi => ?_⟩
    have hi7 : i < 9 := by have := (List.getElem?_eq_some_iff.1 hi).1; omega
    have := hc' i v hi
    simp only [Array.getElem?_setIfInBounds, Array.size_setIfInBounds]
    rw [if_neg (by omega)]
    rw [if_neg (by omega)]
    rw [if_neg (by omega)]
    rw [if_neg (by omega)]
    rw [if_neg (by omega)]
    rw [if_neg (by omega)]
    rw [if_neg (by omega)]
    rw [if_neg (by omega)]
    rw [if_neg (by omega)]
    exact this
end Go.Proofs.YtbmicnajedeenaaGreatDoor
/- A copy of a tree. -/
namespace Go.Proofs.YtbmicnajedeenaaGreatDoor
open Go.RowKit

/-- no list of the tree is long -/
def SmE (e : Ex) : Prop := ∀ q ∈ nodesE 1 e, q.2.ns.length ≤ 1000 ∧ q.2.l.length ≤ 1000 ∧ q.2.bs.length ≤ 1000 ∧ ∀ o ∈ q.2.ops, o.2.length ≤ 1000
theorem SmE.parts {k n : Int} {s t : Txt} {ns : List Txt} {l : List Ex} {ops : List (Txt × List Txt)} {bs : List Ex} (h : SmE (.mk k n s t ns l ops bs)) : (ns.length ≤ 1000 ∧ l.length ≤ 1000 ∧ bs.length ≤ 1000 ∧ ∀ o ∈ ops, o.2.length ≤ 1000) ∧ (∀ x ∈ l, SmE x) ∧ ∀ x ∈ bs, SmE x := by
  refine ⟨h (1, .mk k n s t ns l ops bs) (by simp [nodesE]), fun x hx => nodesE_snd (fun e => e.ns.length ≤ 1000 ∧ e.l.length ≤ 1000 ∧ e.bs.length ≤ 1000 ∧ ∀ o ∈ e.ops, o.2.length ≤ 1000) x (1 + 1) 1 fun q hq => h q ?_, fun x hx => nodesE_snd (fun e => e.ns.length ≤ 1000 ∧ e.l.length ≤ 1000 ∧ e.bs.length ≤ 1000 ∧ ∀ o ∈ e.ops, o.2.length ≤ 1000) x (1 + 1) 1 fun q hq => h q ?_⟩
  · simp only [nodesE, List.mem_cons, List.mem_append]
    exact .inr (.inl (mem_nodesL hx hq))
  · simp only [nodesE, List.mem_cons, List.mem_append]
    exact .inr (.inr (mem_nodesL hx hq))
theorem own_names3 {base : Nat} {w : World} {A : Option Addr} {n c : Nat} {L : List (List UInt8)} (hn : n = L.length) (ho : w.ownsRow base 9 1 (.slice A n c) n (L.map fun x => Value.string (strB x))) : NamesAt (fun x => base ≤ x) w A L ∧ n ≤ c ∧ c ≤ maxLen := by
  rcases ho.2 with ⟨e, h0⟩ | ⟨g, cap, cur, e, hb, hg, h1, h2, _⟩
  · injection e with e1 e2 e3
    subst e1 e3
    have : L = [] := List.length_eq_zero_iff.1 (by omega)
    subst this
    exact ⟨fun h => absurd rfl h, by omega, by unfold maxLen; omega⟩
  · injection e with e1 e2 e3
    subst e1 e3
    refine ⟨fun _ => ⟨g, 0, rfl, hb, (Array.getElem?_eq_some_iff.1 hg).1, fun j l hj => ?_⟩, h1, h2⟩
    have hjl := (List.getElem?_eq_some_iff.1 hj).1
    have := ho.cellAt j (by omega)
    rw [Nat.zero_add, this, List.getElem?_map, hj]
    rfl
theorem flatK_at {K : Nat} : ∀ {cl : List (List Value)}, (∀ c ∈ cl, c.length = K) → ∀ (j i : Nat) (c : List Value), cl[j]? = some c → i < K → cl.flatten[j * K + i]? = c[i]?
  | [], _, j, i, c, hj, _ => by simp at hj
  | x :: r, h, 0, i, c, hj, hi => by
    simp only [List.getElem?_cons_zero, Option.some.injEq] at hj
    subst hj
    rw [List.flatten_cons, Nat.zero_mul, Nat.zero_add, List.getElem?_append_left (by rw [h x (by simp)]; exact hi)]
  | x :: r, h, j + 1, i, c, hj, hi => by
    simp only [List.getElem?_cons_succ] at hj
    have hx := h x (by simp)
    rw [List.flatten_cons, List.getElem?_append_right (by rw [hx, Nat.succ_mul]; omega), hx, show (j + 1) * K + i - K = j * K + i by rw [Nat.succ_mul]; omega]
    exact flatK_at (fun y hy => h y (by simp [hy])) j i c hj hi
theorem row_idx {n K j i : Nat} (hj : j < n) (hi : i < K) : j * K + i < n * K := by
  have : (j + 1) * K ≤ n * K := Nat.mul_le_mul_right K hj
  rw [Nat.succ_mul] at this
  omega
/-- a row that is the call's own, as a block of elements -/
theorem own_row {base : Nat} {w : World} {T : TypeId} {K : Nat} {v : Value} {n : Nat} {cl : List (List Value)} (hK : ∀ c ∈ cl, c.length = K) (hn : cl.length = n) (ho : w.ownsRow base T K v n cl.flatten) :
    ∃ A g c, v = .slice A n c ∧ (n ≤ c ∧ c ≤ maxLen) ∧ (n ≠ 0 → A = some ⟨g, 0, none⟩ ∧ base ≤ g ∧ RowC w g T K cl) := by
  rcases ho.2 with ⟨e, h0⟩ | ⟨g, cap, cur, e, hb, hg, h1, h2, _, h4⟩
  · exact ⟨none, 0, 0, by rw [e, h0], ⟨by omega, by unfold maxLen; omega⟩, fun h => absurd h0 h⟩
  · refine ⟨some ⟨g, 0, none⟩, g, cap, e, ⟨h1, h2⟩, fun _ => ⟨rfl, hb, cur, hg, fun j c hj => ⟨hK c (List.mem_of_getElem? hj), fun i v hi => ?_⟩⟩⟩
    have hjl := (List.getElem?_eq_some_iff.1 hj).1
    have hil := (List.getElem?_eq_some_iff.1 hi).1
    rw [hK c (List.mem_of_getElem? hj)] at hil
    have h5 := flatK_at hK j i c hj hil
    rw [← h4, List.getElem?_take_of_lt (row_idx (by omega) hil), hi] at h5
    simpa using h5
/-- a copy is returned -/
def CloneTo (w : World) (e : Ex) (r : Ending) (w' : World) : Prop :=
  ∃ (k n : Int) (s t : ByteArray) (A0 : Option Addr) (n0 c0 : Nat) (A1 : Option Addr) (n1 c1 : Nat) (A2 : Option Addr) (n2 c2 : Nat), r = .returned (.agg #[.int .i64 k, .int .i64 n, .string s, .string t, .slice A0 n0 c0, .slice A1 n1 c1, .slice A2 n2 c2]) ∧ RepE (fun x => w.heap.size ≤ x) w' e [.int .i64 k, .int .i64 n, .string s, .string t, .slice A0 n0 c0, .slice A1 n1 c1, .slice A2 n2 c2] ∧ Below w.heap.size w w'
def CloneSays (e : Ex) : Prop := ∀ (k n : Int) (s t : ByteArray) (A0 : Option Addr) (n0 c0 : Nat) (A1 : Option Addr) (n1 c1 : Nat) (A2 : Option Addr) (n2 c2 : Nat) (w : World), RepE (fun _ => True) w e [.int .i64 k, .int .i64 n, .string s, .string t, .slice A0 n0 c0, .slice A1 n1 c1, .slice A2 n2 c2] → Calls Tryz.prog 17 #[.agg #[.int .i64 k, .int .i64 n, .string s, .string t, .slice A0 n0 c0, .slice A1 n1 c1, .slice A2 n2 c2]] w (CloneTo w e)
end Go.Proofs.YtbmicnajedeenaaGreatDoor
