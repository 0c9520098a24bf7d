/- IsVar, IsUpper, Digits, tokenOf. -/
import Derived.Test.YtdnolbbkphgfiaaDoorKw
import Derived.Test.YtdnolbbkphgfiaaDoorInt
import Derived.Test.YtdnolbbkphgfiaaDoorSymb
import Derived.Lib.AppendIntMem
namespace Go.Proofs.YtdnolbbkphgfiaaDoor
open Go.RowKit

/-- the table of powers lies as the library's text lays it -/
def Tab (w : World) : Prop := ∃ t fr, w.heap[2]? = some (.cells (Lib.pow10Tab.map fun z => Value.int .u64 z).toArray t fr)
theorem Tab.is {w : World} (h : Tab w) : Lib.TabIs Tryd.prog w "internal/strconv.uint64pow10" .u64 Lib.pow10Tab := by
  obtain ⟨t, fr, e⟩ := h
  have hg : Tryd.prog.globalNamed "internal/strconv.uint64pow10" = some 2 := by kernel_rfl
  unfold Lib.TabIs World.var?
  rw [hg]
  simp only [Option.bind_some, e]
def Env (w : World) : Prop := Syms w ∧ Tab w
theorem Env.lt {w : World} (h : Env w) : 2 < w.heap.size := by obtain ⟨_, t, fr, e⟩ := h; exact (Array.getElem?_eq_some_iff.1 e).1
theorem Env.grown {w w' : World} {row : Option Nat} (h : Env w) (hg : w.grownBy w' row) (h0 : some 0 ≠ row) (h2 : some 2 ≠ row) : Env w' := by
  refine ⟨h.1.grown hg h0, ?_⟩
  have hl := h.lt
  obtain ⟨_, t, fr, e⟩ := h
  exact ⟨t, fr, (hg.block 2 hl h2).trans e⟩
theorem Env.below {w w' : World} (h : Env w) (hb : Below w.heap.size w w') : Env w' := h.grown (grown_below hb none) (by simp) (by simp)
theorem bcell {W w1 : World} (hb : Below W.heap.size W w1) : (∀ b o, b < W.heap.size → w1.cell? ⟨b, o, none⟩ = W.cell? ⟨b, o, none⟩) ∧ (∀ b o, b < W.heap.size → w1.frozen? ⟨b, o, none⟩ = W.frozen? ⟨b, o, none⟩) :=
  ⟨fun b o h => hb.cell (p := ⟨b, o, none⟩) h, fun b o h => hb.frozen (p := ⟨b, o, none⟩) h⟩

theorem below_call {w w1 w2 : World} (h : Below w.heap.size w w1) (hb : Below w1.heap.size w1 w2) : Below w.heap.size w w2 := h.trans (hb.mono h.size)

def isV (l : List UInt8) : Bool := isNm 1 l && !isKw l

set_option maxHeartbeats 400000 in
theorem IsVar_any (s : ByteArray) (w : World) (hs : s.size ≤ maxLen) : Calls Tryd.prog 26 #[.string s] w fun e w' => e = .returned (.bool (isV s.data.toList)) ∧ Below w.heap.size w w' := by
  unfold isV
  cases h1 : isNm 1 s.data.toList with
  | false =>
    have H1 : Hid (∀ w, Calls Tryd.prog 47 #[.string s, .int .i64 1] w fun e w' => e = .returned (.bool false) ∧ Below w.heap.size w w') := fun w => (isName_any s 1 w hs).mono fun e w' h => ⟨by rw [h.1, h1], h.2⟩
    clear h1
    go_enter Tryd.func26, Tryd.ntmps26
    go_wp2_with (go_at_call 47; refine (H1.out _).mono ?_; rintro e w' ⟨rfl, hb⟩)
    go_ret
    exact ⟨ret_bool rfl, hb⟩
  | true =>
    have H1 : Hid (∀ w, Calls Tryd.prog 47 #[.string s, .int .i64 1] w fun e w' => e = .returned (.bool true) ∧ Below w.heap.size w w') := fun w => (isName_any s 1 w hs).mono fun e w' h => ⟨by rw [h.1, h1], h.2⟩
    clear h1
    have HK := Lib.hid (fun w => Keyword_any s w hs)
    go_enter Tryd.func26, Tryd.ntmps26
    go_wp2_with (first | (go_at_call 47; refine (H1.out _).mono ?_; rintro e w1 ⟨rfl, hb⟩) | (go_at_call 30; refine (HK.out _).mono ?_; rintro e w2 ⟨rfl, hb2⟩))
    go_ret
    exact ⟨ret_bool (by simp), hb.trans (hb2.mono hb.size)⟩

set_option maxHeartbeats 400000 in
theorem IsUpper_any (s : ByteArray) (w : World) (hs : s.size ≤ maxLen) : Calls Tryd.prog 28 #[.string s] w fun e w' => e = .returned (.bool (isNm 2 s.data.toList)) ∧ Below w.heap.size w w' := by
  have H1 := Lib.hid (fun w => isName_any s 2 w hs)
  go_enter Tryd.func28, Tryd.ntmps28
  go_wp2_with (go_at_call 47; refine (H1.out _).mono ?_; rintro e w' ⟨rfl, hb⟩)
  go_ret
  exact ⟨rfl, hb⟩

set_option maxHeartbeats 400000 in
theorem Digits_any (n : Int) (w : World) (h : -9223372036854775808 ≤ n ∧ n ≤ 9223372036854775807) (hT : Tab w) : Calls Tryd.prog 24 #[.int .i64 n] w fun e w' => e = .returned (.string (strB (Lib.itoa n))) ∧ Below w.heap.size w w' := by
  have H1 : Hid (Calls Tryd.prog 46 #[.int .i64 n] w fun e w' => e = .returned (.string (strB (Lib.itoa n))) ∧ Below w.heap.size w w') :=
    (Tryd.strconv_Itoa n h.1 h.2 w hT.is).mono fun e w' h => ⟨h.1, by obtain ⟨k, os, rfl⟩ := h.2; exact Lib.below_grow _ _ (Nat.le_refl _) k os⟩
  clear h
  go_enter Tryd.func24, Tryd.ntmps24
  go_wp2_with (go_at_call 46; refine (Calls.mono H1.out ?_); rintro e w' ⟨rfl, hb⟩)
  go_ret
  exact ⟨rfl, hb⟩

/-- a token's value -/
def tkV (k : Int) (s : List UInt8) (n : Int) (pos : Int) : Value := .agg #[.int .i64 k, .string (strB s), .int .i64 n, .int .i64 pos]
def TokRes (o : Option (Int × List UInt8 × Int)) : Ending :=
  match o with
  | some (k, s, n) => .returned (.tuple #[.agg #[.int .i64 k, .string (strB s), .int .i64 n, .int .i64 0], .bool true])
  | none => .returned (.tuple #[.agg #[.int .i64 0, .string ⟨#[]⟩, .int .i64 0, .int .i64 0], .bool false])
theorem TokRes_some {o : Option (Int × List UInt8 × Int)} {k n : Int} {s : List UInt8} (h : o = some (k, s, n)) : Ending.returned (.tuple #[.agg #[.int .i64 k, .string (strB s), .int .i64 n, .int .i64 0], .bool true]) = TokRes o := by rw [h]; rfl
theorem TokRes_none {o : Option (Int × List UInt8 × Int)} (h : o = none) : Ending.returned (.tuple #[.agg #[.int .i64 0, .string ⟨#[]⟩, .int .i64 0, .int .i64 0], .bool false]) = TokRes o := by rw [h]; rfl

/-- a token lies in block g -/
def TB (w : World) (g : Nat) (k : Int) (s : ByteArray) (n pos : Int) : Prop := w.heap[g]? = some (.cells #[.int .i64 k, .string s, .int .i64 n, .int .i64 pos] 43 (0, 0))
section
variable {w w' : World} {g : Nat} {s : ByteArray} {k n pos : Int}
theorem TB.lt (h : TB w g k s n pos) : g < w.heap.size := (Array.getElem?_eq_some_iff.1 h).1
theorem TB.c0 (h : TB w g k s n pos) : w.cell? ⟨g, 0, none⟩ = some (.int .i64 k) := cell_of_row w g 0 _ 43 (0, 0) h
theorem TB.c1 (h : TB w g k s n pos) : w.cell? ⟨g, 1, none⟩ = some (.string s) := cell_of_row w g 1 _ 43 (0, 0) h
theorem TB.c2 (h : TB w g k s n pos) : w.cell? ⟨g, 2, none⟩ = some (.int .i64 n) := cell_of_row w g 2 _ 43 (0, 0) h
theorem TB.c3 (h : TB w g k s n pos) : w.cell? ⟨g, 3, none⟩ = some (.int .i64 pos) := cell_of_row w g 3 _ 43 (0, 0) h
theorem TB.fr (h : TB w g k s n pos) (i : Nat) : w.frozen? ⟨g, i, none⟩ = false := by
  unfold TB at h; simp [World.frozen?, h]
theorem TB.new (w : World) (k : Int) (s : ByteArray) (n pos : Int) : TB (w.alloc (.cells #[.int .i64 k, .string s, .int .i64 n, .int .i64 pos] 43)) w.heap.size k s n pos := heap_alloc_new w _
theorem TB.kept (h : TB w g k s n pos) {row : Option Nat} (hg : w.grownBy w' row) (hne : some g ≠ row) : TB w' g k s n pos := (hg.block g h.lt hne).trans h
theorem TB.below (h : TB w g k s n pos) (hb : Below w.heap.size w w') : TB w' g k s n pos := (hb.block g h.lt).trans h
theorem TB.drewN (h : TB w g k s n pos) (m : Nat) : TB (w.drewN m) g k s n pos := h
theorem TB.set0 (h : TB w g k s n pos) (x : Int) : TB (w.setCell ⟨g, 0, none⟩ (.int .i64 x)) g x s n pos := by
  unfold TB at h ⊢; simp [World.setCell, Array.getElem?_modify, h]
theorem TB.set1 (h : TB w g k s n pos) (x : ByteArray) : TB (w.setCell ⟨g, 1, none⟩ (.string x)) g k x n pos := by
  unfold TB at h ⊢; simp [World.setCell, Array.getElem?_modify, h]
theorem TB.set2 (h : TB w g k s n pos) (x : Int) : TB (w.setCell ⟨g, 2, none⟩ (.int .i64 x)) g k s x pos := by
  unfold TB at h ⊢; simp [World.setCell, Array.getElem?_modify, h]
theorem TB.set3 (h : TB w g k s n pos) (x : Int) : TB (w.setCell ⟨g, 3, none⟩ (.int .i64 x)) g k s n x := by
  unfold TB at h ⊢; simp [World.setCell, Array.getElem?_modify, h]
theorem TB.all (h : TB w g k s n pos) (k' : Int) (s' : ByteArray) (n' pos' : Int) :
    TB ((((w.setCell ⟨g, 0, none⟩ (.int .i64 k')).setCell ⟨g, 1, none⟩ (.string s')).setCell ⟨g, 2, none⟩ (.int .i64 n')).setCell ⟨g, 3, none⟩ (.int .i64 pos')) g k' s' n' pos' := (((h.set0 k').set1 s').set2 n').set3 pos'
end
theorem bset {w w1 : World} {B b o : Nat} (h : Below B w w1) (hb : B ≤ b) (v : Value) : Below B w (w1.setCell ⟨b, o, none⟩ v) := Below.setCell h (p := ⟨b, o, none⟩) hb v
theorem ball {w w1 : World} {B b : Nat} (h : Below B w w1) (hb : B ≤ b) (v0 v1 v2 v3 : Value) : Below B w ((((w1.setCell ⟨b, 0, none⟩ v0).setCell ⟨b, 1, none⟩ v1).setCell ⟨b, 2, none⟩ v2).setCell ⟨b, 3, none⟩ v3) := bset (bset (bset (bset h hb _) hb _) hb _) hb _
theorem res55 {tmps : Array Value} {w : World} {g : Nat} {k n pos : Int} {s : ByteArray} {b : Bool} (h2 : tmps.getD 2 undef = .pointer (some ⟨g, 0, none⟩)) (h3 : tmps.getD 3 undef = .bool b) (h : TB w g k s n pos) :
    (results Tryd.f55 tmps).run Tryd.prog w = .ok (.tuple #[.agg #[.int .i64 k, .string s, .int .i64 n, .int .i64 pos], .bool b]) w := by
  have c0 := h.c0
  have c1 := h.c1
  have c2 := h.c2
  have c3 := h.c3
  have h2' : tmps[2]?.getD undef = .pointer (some ⟨g, 0, none⟩) := by simpa using h2
  have h3' : tmps[3]?.getD undef = .bool b := by simpa using h3
  simp [results, Tryd.results55, go_sem, h2', h3', c0, c1, c2, c3]

set_option maxHeartbeats 400000 in
theorem tokenOf_int (s : ByteArray) (n : Int) (w : World) (hs : s.size ≤ maxLen) (hi : integerS s.data.toList = some n) :
    Calls Tryd.prog 55 #[.string s] w fun e w' => e = TokRes (tokS s.data.toList) ∧ Below w.heap.size w w' := by
  have HR := Lib.hid (show tokS s.data.toList = some (3, [], n) by unfold tokS; rw [hi])
  have HI : Hid (∀ w, Calls Tryd.prog 69 #[.string s] w fun e w' => e = .returned (.tuple #[.int .i64 n, .bool true]) ∧ Below w.heap.size w w') := fun w => (integer_any s w hs).mono fun e w' h => ⟨by rw [h.1, hi]; rfl, h.2⟩
  clear hi
  have HN := Lib.hid (TB.new w 0 ⟨#[]⟩ 0 0)
  have HA := Lib.hid ((Below.refl w.heap.size w).alloc (Nat.le_refl _) (.cells #[.int .i64 0, .string ⟨#[]⟩, .int .i64 0, .int .i64 0] 43))
  go_enter Tryd.func55, Tryd.ntmps55
  go_wp2_with (go_at_call 69; refine (HI.out _).mono ?_; rintro e w' ⟨rfl, hb⟩; have HB1 := Lib.hid (below_call HA.out hb); have HT1 := Lib.hid (HN.out.below hb); clear hb; have c0 := HT1.out.c0; have c1 := HT1.out.c1; have c2 := HT1.out.c2; have c3 := HT1.out.c3; have f0 := HT1.out.fr 0; have f1 := HT1.out.fr 1; have f2 := HT1.out.fr 2; have f3 := HT1.out.fr 3)
  exact bodyPost_ret (res55 rfl rfl (HT1.out.all 3 ⟨#[]⟩ n 0)) rfl ⟨TokRes_some HR.out, ball HB1.out (Nat.le_refl _) _ _ _ _⟩

theorem tok_none {l : List UInt8} (h : integerS l = none) : tokS l = if isKw l then some (1, l, 0) else if isNm 1 l then some (0, l, 0) else if isNm 2 l then some (2, l, 0) else if isSym l then some (4, l, 0) else none := by
  unfold tokS; rw [h]

set_option maxHeartbeats 1000000 in
theorem tokenOf_rest (s : ByteArray) (w : World) (hs : s.size ≤ maxLen) (hY : Syms w) (hi : integerS s.data.toList = none) :
    Calls Tryd.prog 55 #[.string s] w fun e w' => e = TokRes (tokS s.data.toList) ∧ Below w.heap.size w w' := by
  have HI : Hid (∀ w, Calls Tryd.prog 69 #[.string s] w fun e w' => e = .returned (.tuple #[.int .i64 0, .bool false]) ∧ Below w.heap.size w w') := fun w => (integer_any s w hs).mono fun e w' h => ⟨by rw [h.1, hi]; rfl, h.2⟩
  have HT := Lib.hid (tok_none hi)
  have HY := Lib.hid hY
  clear hi hY
  have HN := Lib.hid (TB.new w 0 ⟨#[]⟩ 0 0)
  have HA := Lib.hid ((Below.refl w.heap.size w).alloc (Nat.le_refl _) (.cells #[.int .i64 0, .string ⟨#[]⟩, .int .i64 0, .int .i64 0] 43))
  cases hk : isKw s.data.toList with
  | true =>
    have HR := Lib.hid (show tokS s.data.toList = some (1, s.data.toList, 0) by rw [HT.out, hk]; rfl)
    have HK : Hid (∀ w, Calls Tryd.prog 30 #[.string s] w fun e w' => e = .returned (.bool true) ∧ Below w.heap.size w w') := fun w => (Keyword_any s w hs).mono fun e w' h => ⟨by rw [h.1, hk], h.2⟩
    clear hk HT HY
    go_enter Tryd.func55, Tryd.ntmps55
    go_wp2_with (first
      | (go_at_call 69; refine (HI.out _).mono ?_; rintro e w1 ⟨rfl, hb⟩; have HB1 := Lib.hid (below_call HA.out hb); have HT1 := Lib.hid (HN.out.below hb); clear hb; have c0 := HT1.out.c0; have c1 := HT1.out.c1; have c2 := HT1.out.c2; have c3 := HT1.out.c3; have f0 := HT1.out.fr 0; have f1 := HT1.out.fr 1; have f2 := HT1.out.fr 2; have f3 := HT1.out.fr 3)
      | (go_at_call 30; refine (HK.out _).mono ?_; rintro e w2 ⟨rfl, hb⟩; have HB2 := Lib.hid (below_call (bset HB1.out (Nat.le_refl _) _) hb); have HT2 := Lib.hid ((HT1.out.set1 s).below hb); clear hb; have d0 := HT2.out.c0; have d1 := HT2.out.c1; have d2 := HT2.out.c2; have d3 := HT2.out.c3; have e0 := HT2.out.fr 0; have e1 := HT2.out.fr 1; have e2 := HT2.out.fr 2; have e3 := HT2.out.fr 3))
    exact bodyPost_ret (res55 rfl rfl ((HT2.out.set0 1).all 1 s 0 0)) rfl ⟨TokRes_some HR.out, ball (bset HB2.out (Nat.le_refl _) _) (Nat.le_refl _) _ _ _ _⟩
  | false =>
    have HK : Hid (∀ w, Calls Tryd.prog 30 #[.string s] w fun e w' => e = .returned (.bool false) ∧ Below w.heap.size w w') := fun w => (Keyword_any s w hs).mono fun e w' h => ⟨by rw [h.1, hk], h.2⟩
    have HM : Hid (∀ k w, Calls Tryd.prog 47 #[.string s, .int .i64 k] w fun e w' => e = .returned (.bool (isNm k s.data.toList)) ∧ Below w.heap.size w w') := fun k w => isName_any s k w hs
    cases h1 : isNm 1 s.data.toList with
    | true =>
      have HR := Lib.hid (show tokS s.data.toList = some (0, s.data.toList, 0) by rw [HT.out, hk, h1]; rfl)
      clear hk HT HY
      go_enter Tryd.func55, Tryd.ntmps55
      go_wp2_with (first
        | (go_at_call 69; refine (HI.out _).mono ?_; rintro e w1 ⟨rfl, hb⟩; have HB1 := Lib.hid (below_call HA.out hb); have HT1 := Lib.hid (HN.out.below hb); clear hb; have c0 := HT1.out.c0; have c1 := HT1.out.c1; have c2 := HT1.out.c2; have c3 := HT1.out.c3; have f0 := HT1.out.fr 0; have f1 := HT1.out.fr 1; have f2 := HT1.out.fr 2; have f3 := HT1.out.fr 3)
        | (go_at_call 30; refine (HK.out _).mono ?_; rintro e w2 ⟨rfl, hb⟩; have HB2 := Lib.hid (below_call (bset HB1.out (Nat.le_refl _) _) hb); have HT2 := Lib.hid ((HT1.out.set1 s).below hb); clear hb)
        | (go_at_call 47; refine (HM.out _ _).mono ?_; rintro e w3 ⟨rfl, hb⟩; have X := Lib.hid (below_call HB2.out hb); have Y := Lib.hid (HT2.out.below hb); clear HB2 HT2 hb; have HB2 := X; have HT2 := Y; clear X Y; have d0 := HT2.out.c0; have d1 := HT2.out.c1; have d2 := HT2.out.c2; have d3 := HT2.out.c3; have e0 := HT2.out.fr 0; have e1 := HT2.out.fr 1; have e2 := HT2.out.fr 2; have e3 := HT2.out.fr 3))
      exact bodyPost_ret (res55 rfl rfl ((HT2.out.set0 0).all 0 s 0 0)) rfl ⟨TokRes_some HR.out, ball (bset HB2.out (Nat.le_refl _) _) (Nat.le_refl _) _ _ _ _⟩
    | false =>
      cases h2 : isNm 2 s.data.toList with
      | true =>
        have HR := Lib.hid (show tokS s.data.toList = some (2, s.data.toList, 0) by rw [HT.out, hk, h1, h2]; rfl)
        clear hk HT HY
        go_enter Tryd.func55, Tryd.ntmps55
        go_wp2_with (first
          | (go_at_call 69; refine (HI.out _).mono ?_; rintro e w1 ⟨rfl, hb⟩; have HB1 := Lib.hid (below_call HA.out hb); have HT1 := Lib.hid (HN.out.below hb); clear hb; have c0 := HT1.out.c0; have c1 := HT1.out.c1; have c2 := HT1.out.c2; have c3 := HT1.out.c3; have f0 := HT1.out.fr 0; have f1 := HT1.out.fr 1; have f2 := HT1.out.fr 2; have f3 := HT1.out.fr 3)
          | (go_at_call 30; refine (HK.out _).mono ?_; rintro e w2 ⟨rfl, hb⟩; have HB2 := Lib.hid (below_call (bset HB1.out (Nat.le_refl _) _) hb); have HT2 := Lib.hid ((HT1.out.set1 s).below hb); clear hb)
          | (go_at_call 47; refine (HM.out _ _).mono ?_; rintro e w3 ⟨rfl, hb⟩; have X := Lib.hid (below_call HB2.out hb); have Y := Lib.hid (HT2.out.below hb); clear HB2 HT2 hb; have HB2 := X; have HT2 := Y; clear X Y; have d0 := HT2.out.c0; have d1 := HT2.out.c1; have d2 := HT2.out.c2; have d3 := HT2.out.c3; have e0 := HT2.out.fr 0; have e1 := HT2.out.fr 1; have e2 := HT2.out.fr 2; have e3 := HT2.out.fr 3))
        exact bodyPost_ret (res55 rfl rfl ((HT2.out.set0 2).all 2 s 0 0)) rfl ⟨TokRes_some HR.out, ball (bset HB2.out (Nat.le_refl _) _) (Nat.le_refl _) _ _ _ _⟩
      | false =>
        cases h3 : isSym s.data.toList with
        | true =>
          have HR := Lib.hid (show tokS s.data.toList = some (4, s.data.toList, 0) by rw [HT.out, hk, h1, h2, h3]; rfl)
          clear hk HT
          go_enter Tryd.func55, Tryd.ntmps55
          go_wp2_with (first
            | (go_at_call 69; refine (HI.out _).mono ?_; rintro e w1 ⟨rfl, hb⟩; have HB1 := Lib.hid (below_call HA.out hb); have HT1 := Lib.hid (HN.out.below hb); clear hb; have c0 := HT1.out.c0; have c1 := HT1.out.c1; have c2 := HT1.out.c2; have c3 := HT1.out.c3; have f0 := HT1.out.fr 0; have f1 := HT1.out.fr 1; have f2 := HT1.out.fr 2; have f3 := HT1.out.fr 3)
            | (go_at_call 30; refine (HK.out _).mono ?_; rintro e w2 ⟨rfl, hb⟩; have HB2 := Lib.hid (below_call (bset HB1.out (Nat.le_refl _) _) hb); have HT2 := Lib.hid ((HT1.out.set1 s).below hb); clear hb)
            | (go_at_call 47; refine (HM.out _ _).mono ?_; rintro e w3 ⟨rfl, hb⟩; have X := Lib.hid (below_call HB2.out hb); have Y := Lib.hid (HT2.out.below hb); clear HB2 HT2 hb; have HB2 := X; have HT2 := Y; clear X Y; have d0 := HT2.out.c0; have d1 := HT2.out.c1; have d2 := HT2.out.c2; have d3 := HT2.out.c3; have e0 := HT2.out.fr 0; have e1 := HT2.out.fr 1; have e2 := HT2.out.fr 2; have e3 := HT2.out.fr 3)
            | (go_at_call 70; refine (isSymbol_any s _ (HY.out.below HB2.out HY.out.pos)).mono ?_; rintro e w4 ⟨rfl, rfl⟩))
          exact bodyPost_ret (res55 rfl rfl ((HT2.out.set0 4).all 4 s 0 0)) rfl ⟨TokRes_some HR.out, ball (bset HB2.out (Nat.le_refl _) _) (Nat.le_refl _) _ _ _ _⟩
        | false =>
          have HR := Lib.hid (show tokS s.data.toList = none by rw [HT.out, hk, h1, h2, h3]; rfl)
          clear hk HT
          go_enter Tryd.func55, Tryd.ntmps55
          go_wp2_with (first
            | (go_at_call 69; refine (HI.out _).mono ?_; rintro e w1 ⟨rfl, hb⟩; have HB1 := Lib.hid (below_call HA.out hb); have HT1 := Lib.hid (HN.out.below hb); clear hb; have c0 := HT1.out.c0; have c1 := HT1.out.c1; have c2 := HT1.out.c2; have c3 := HT1.out.c3; have f0 := HT1.out.fr 0; have f1 := HT1.out.fr 1; have f2 := HT1.out.fr 2; have f3 := HT1.out.fr 3)
            | (go_at_call 30; refine (HK.out _).mono ?_; rintro e w2 ⟨rfl, hb⟩; have HB2 := Lib.hid (below_call (bset HB1.out (Nat.le_refl _) _) hb); have HT2 := Lib.hid ((HT1.out.set1 s).below hb); clear hb)
            | (go_at_call 47; refine (HM.out _ _).mono ?_; rintro e w3 ⟨rfl, hb⟩; have X := Lib.hid (below_call HB2.out hb); have Y := Lib.hid (HT2.out.below hb); clear HB2 HT2 hb; have HB2 := X; have HT2 := Y; clear X Y; have d0 := HT2.out.c0; have d1 := HT2.out.c1; have d2 := HT2.out.c2; have d3 := HT2.out.c3; have e0 := HT2.out.fr 0; have e1 := HT2.out.fr 1; have e2 := HT2.out.fr 2; have e3 := HT2.out.fr 3)
            | (go_at_call 70; refine (isSymbol_any s _ (HY.out.below HB2.out HY.out.pos)).mono ?_; rintro e w4 ⟨rfl, rfl⟩))
          exact bodyPost_ret (res55 rfl rfl (HT2.out.all 0 ⟨#[]⟩ 0 0)) rfl ⟨TokRes_none HR.out, ball HB2.out (Nat.le_refl _) _ _ _ _⟩

theorem tokenOf_any (s : ByteArray) (w : World) (hs : s.size ≤ maxLen) (hY : Syms w) :
    Calls Tryd.prog 55 #[.string s] w fun e w' => e = TokRes (tokS s.data.toList) ∧ Below w.heap.size w w' := by
  cases h : integerS s.data.toList with
  | some n => exact tokenOf_int s n w hs h
  | none => exact tokenOf_rest s w hs hY h
end Go.Proofs.YtdnolbbkphgfiaaDoor
