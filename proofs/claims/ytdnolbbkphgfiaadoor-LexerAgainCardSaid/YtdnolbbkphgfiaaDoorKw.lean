/- keywordsOf and Keyword: the set of keywords, asked. -/
import Derived.Test.YtdnolbbkphgfiaaDoorSpace
import Derived.StringKeys
import Derived.ProofKit
import Derived.Maps.Own
import Derived.Maps.OwnSet
import Derived.Maps.Views
namespace Go.Proofs.YtdnolbbkphgfiaaDoor
open Go.RowKit Go.Maps Go.WideMaps Go.WideElems Go.ChangeShapes Go.WideShapes Go.ChangeAt

def kwOf (n : Nat) : List (List UInt8) := kwList.filter (fun k => k.length == n)
theorem isKw_of (l : List UInt8) : isKw l = (kwOf l.length).contains l := by
  unfold isKw kwOf
  rw [Bool.eq_iff_iff, List.contains_iff_mem, List.contains_iff_mem, List.mem_filter]
  simp
theorem kwLaw : Keyed Tryd.prog 9 := string_keyed Tryd.underlying9
theorem zero4 (w : World) : (zeroValue 4).run Tryd.prog w = .ok (.bool false) w := by kernel_rfl

def KwMap (w0 w : World) (b : Nat) (ks : List (List UInt8)) : Prop :=
  (∃ D : DataW Unit, w.ownsMap Tryd.prog 9 (plainElem Tryd.prog 4) b ks.length D ∧ IsMap D ∧ ∀ l, D.atKey (.string l) (.lit (.bool false)) = .lit (.bool (ks.contains l))) ∧ Below w0.heap.size w0 w ∧ w0.heap.size ≤ b

theorem kw_made (w : World) : KwMap w (w.alloc (.map #[] 0)) w.heap.size [] :=
  ⟨⟨_, World.ownsMap_made _ _ _ _, isMap_empty, fun _ => rfl⟩, (Below.refl _ _).alloc (Nat.le_refl _) _, Nat.le_refl _⟩

theorem kw_put {w0 w w' : World} {b : Nat} {ks : List (List UInt8)} {D : DataW Unit} (k : List UInt8) (hB : Below w0.heap.size w0 w) (hb : w0.heap.size ≤ b) (hD : IsMap D)
    (hat : ∀ l, D.atKey (.string l) (.lit (.bool false)) = .lit (.bool (ks.contains l)))
    (h' : w'.ownsMap Tryd.prog 9 (plainElem Tryd.prog 4) b (ks.length + 1) (D.put (.string k) (.lit (.bool true)))) (hg : w.grownBy w' (some b)) : KwMap w0 w' b (k :: ks) := by
  refine ⟨⟨_, h', hD.put _ _, fun l => ?_⟩, hB.grown hg hB.size (fun j e => by cases e; exact hb), hb⟩
  by_cases e : l = k
  · subst e
    rw [atKey_put_same hD (by trivial)]
    simp
  · rw [atKey_put_other (by intro h; cases h; exact e rfl), hat]
    have : (l == k) = false := by simpa using e
    rw [List.contains_cons, this, Bool.false_or]

set_option maxRecDepth 100000 in
theorem wpList_insert_kw {w0 : World} (w : World) {ops : Array Oper} {rest : List Oper} {o : Oper} {a : Act} {Q : Exit → Act → World → Prop}
    (hg : o.guard = none) (m x v : Operand) (hop : o.op = Op.insert 69 m x v) (b : Nat) (ks : List (List UInt8)) (hm : a.eval m = .map (some b)) (hown : KwMap w0 w b ks) (hn : ks.length < 100)
    (s : ByteArray) (hx : a.eval x = .string s) (hs : s.size < 100) (hv : a.eval v = .bool true)
    (hK : ∀ w', KwMap w0 w' b (s.data.toList :: ks) → wpList Tryd.prog ops Q rest (a.put o.dst undef) w') : wpList Tryd.prog ops Q (o :: rest) a w := by
  refine wpList_plain hg fun K' hK' => ?_
  obtain ⟨⟨D, hD, hM, hat⟩, hB, hb⟩ := hown
  obtain ⟨w', hrun, r1, r2⟩ := hD.update kwLaw Tryd.underlying69 (by unfold maxLen; omega) (keyOf_string_mk (s := s) Tryd.underlying9 (by unfold maxLen; omega)) (plainElem_bool Tryd.underlying4 true)
  unfold Oper.wp
  simp [execOp, hop, hm, hx, hv, hrun, Result.andThen]
  exact hK' _ _ (hK _ (kw_put _ hB hb hM hat r1 r2))

/-- what keywordsOf returns -/
def KwRes (w w' : World) (n : Nat) (v : Value) : Prop := (v = .map none ∧ kwOf n = [] ∧ w = w') ∨ ∃ b, v = .map (some b) ∧ KwMap w w' b (kwOf n).reverse

theorem kw_none (n : Nat) (h : n < 2 ∨ 7 < n) : kwOf n = [] := by
  unfold kwOf
  rw [List.filter_eq_nil_iff]
  intro k hk
  have : k.length = 2 ∨ k.length = 3 ∨ k.length = 4 ∨ k.length = 5 ∨ k.length = 6 ∨ k.length = 7 := by
    have : kwList.all (fun k => k.length == 2 || k.length == 3 || k.length == 4 || k.length == 5 || k.length == 6 || k.length == 7) = true := by decide
    have := List.all_eq_true.1 this k hk
    simp only [Bool.or_eq_true, beq_iff_eq] at this
    omega
  simp; omega

def KwPost (w : World) (n : Nat) (e : Ending) (w' : World) : Prop := ∃ v, e = .returned v ∧ KwRes w w' n v
theorem KwPost.nil {w : World} {n : Nat} (h : kwOf n = []) : KwPost w n (.returned (.map none)) w := ⟨_, rfl, .inl ⟨rfl, h, rfl⟩⟩
theorem KwPost.map {w w' : World} {n b : Nat} {ks : List (List UInt8)} (h : KwMap w w' b ks) (e : ks = (kwOf n).reverse) : KwPost w n (.returned (.map (some b))) w' := ⟨_, rfl, .inr ⟨b, rfl, e ▸ h⟩⟩

set_option maxRecDepth 100000 in
set_option maxHeartbeats 1000000 in
theorem keywordsOf_any (n : Nat) (w : World) : Calls Tryd.prog 49 #[.int .i64 n] w (KwPost w n) := by
  have hmm := @run_makeMap Tryd.prog
  have hmade := kw_made w
  by_cases hr : n < 2 ∨ 7 < n
  · have g2 : ((n : Int) == 2) = false := by simp; omega
    have g3 : ((n : Int) == 3) = false := by simp; omega
    have g4 : ((n : Int) == 4) = false := by simp; omega
    have g5 : ((n : Int) == 5) = false := by simp; omega
    have g6 : ((n : Int) == 6) = false := by simp; omega
    have g7 : ((n : Int) == 7) = false := by simp; omega
    have HR := Lib.hid (kw_none n hr)
    clear hmade hr
    go_enter Tryd.func49, Tryd.ntmps49
    go_wp2
    go_ret
    exact KwPost.nil HR.out
  · obtain rfl | rfl | rfl | rfl | rfl | rfl : n = 2 ∨ n = 3 ∨ n = 4 ∨ n = 5 ∨ n = 6 ∨ n = 7 := by omega
    all_goals
      clear hr
      go_enter Tryd.func49, Tryd.ntmps49
      go_wp2_with (first | (refine wpList_insert_kw _ rfl _ _ _ rfl _ _ rfl hmade (by decide) _ rfl (by decide) rfl ?_; clear hmade; intro w1 hmade))
    all_goals
      go_ret
      exact KwPost.map hmade (by decide)

set_option maxRecDepth 100000 in
theorem kw_lookup {w w' : World} {n : Nat} {v : Value} (h : KwRes w w' n v) (s : ByteArray) (hs : s.size ≤ maxLen) :
    (Instr.lookup 69 v (.string s) false).run Tryd.prog w' = .ok (.bool ((kwOf n).contains s.data.toList)) w' := by
  have hk := keyOf_string_mk (s := s) Tryd.underlying9 hs
  rcases h with ⟨rfl, h0, rfl⟩ | ⟨b, rfl, ⟨D, hD, hM, hat⟩, hB, hb⟩
  · rw [h0]
    exact Maps.look_nil false kwLaw Tryd.underlying69 (zero4 w) hk
  · obtain ⟨v, ps, hrun, hv⟩ := hD.lookup kwLaw Tryd.underlying69 (zero4 w') (plainElem_bool Tryd.underlying4 false) hk
    rw [hat, List.contains_reverse] at hv
    rw [hrun]
    congr 1
    unfold plainElem at hv
    rw [Tryd.underlying4] at hv
    cases v <;> simp at hv
    rw [hv.1]
    congr 1
    rw [Bool.eq_iff_iff, List.contains_iff_mem, decide_eq_true_iff]
theorem KwRes.below {w w' : World} {n : Nat} {v : Value} (h : KwRes w w' n v) : Below w.heap.size w w' := by
  rcases h with ⟨rfl, h0, rfl⟩ | ⟨b, rfl, ⟨D, hD, hM, hat⟩, hB, hb⟩
  · exact Below.refl _ _
  · exact hB

set_option maxHeartbeats 1000000 in
theorem Keyword_any (s : ByteArray) (w : World) (hs : s.size ≤ maxLen) : Calls Tryd.prog 30 #[.string s] w fun e w' => e = .returned (.bool (isKw s.data.toList)) ∧ Below w.heap.size w w' := by
  have HK := Lib.hid (show isKw s.data.toList = decide (s.data.toList ∈ kwOf s.size) by rw [isKw_of, len_data]; rw [Bool.eq_iff_iff, List.contains_iff_mem, decide_eq_true_iff])
  go_enter Tryd.func30, Tryd.ntmps30
  go_wp2_with (go_at_call 49; refine (keywordsOf_any _ _).mono ?_; rintro e w' ⟨v, rfl, hv⟩; have hl := kw_lookup hv s hs; have HB := Lib.hid hv.below; clear hv)
  go_ret
  exact ⟨ret_bool HK.out.symm, HB.out⟩
end Go.Proofs.YtdnolbbkphgfiaaDoor
