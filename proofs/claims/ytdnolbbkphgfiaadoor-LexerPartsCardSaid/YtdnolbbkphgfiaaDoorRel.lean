/- The tokens of a text as a relation; what becomes of them where a text is cut or goes on. -/
import Derived.Test.YtdnolbbkphgfiaaDoorCov
namespace Go.Proofs.YtdnolbbkphgfiaaDoor

/-- the tokens of a text from a byte on, and where the search for the next one ended -/
def LexR (l : List UInt8) : Nat → List Tk → Nat → Prop
  | at', [], fin => fin = at' + spLen false (l.drop at') ∧ tokS (partOf (l.drop fin)) = none
  | at', t :: r, fin => t.pos = at' + spLen false (l.drop at') ∧ tokS (partOf (l.drop t.pos)) = some (t.kind, t.s, t.n) ∧ LexR l (t.pos + (partOf (l.drop t.pos)).length) r fin

theorem lexF_rel : ∀ (f p : Nat) (l : List UInt8), p ≤ l.length → l.length - p < f → LexR l p (lexF f p (l.drop p)).1 (lexF f p (l.drop p)).2
  | 0, p, l, _, h => by omega
  | f + 1, p, l, hp, h => by
    have hsp := spLen_le false (l.drop p)
    rw [List.length_drop] at hsp
    cases ht : tokS (partOf (l.drop (p + spLen false (l.drop p)))) with
    | none => rw [lexF_none rfl ht]; exact ⟨rfl, ht⟩
    | some x =>
      obtain ⟨k, s, n⟩ := x
      have hpos := part_pos ht
      have hle := partOf_le (l.drop (p + spLen false (l.drop p)))
      rw [List.length_drop] at hle
      rw [lexF_some rfl ht]
      refine ⟨rfl, ht, ?_⟩
      exact lexF_rel f _ l (by simp only; omega) (by simp only; omega)
theorem rel_lexF : ∀ (xs : List Tk) (f p : Nat) (l : List UInt8) (fin : Nat), LexR l p xs fin → p ≤ l.length → l.length - p < f → lexF f p (l.drop p) = (xs, fin)
  | _, 0, p, l, _, _, _, h => by omega
  | [], f + 1, p, l, fin, h, hp, hf => by
    obtain ⟨h1, h2⟩ := h
    rw [lexF_none h1 h2]
  | t :: r, f + 1, p, l, fin, h, hp, hf => by
    obtain ⟨h1, h2, h3⟩ := h
    have hsp := spLen_le false (l.drop p)
    rw [List.length_drop] at hsp
    have hpos := part_pos h2
    have hle := partOf_le (l.drop t.pos)
    rw [List.length_drop] at hle
    rw [lexF_some h1 h2, rel_lexF r f _ l fin h3 (by omega) (by omega)]
theorem rel_ge : ∀ (xs : List Tk) (p : Nat) (l : List UInt8) (fin : Nat), LexR l p xs fin → p ≤ fin
  | [], p, l, fin, h => by have := h.1; omega
  | t :: r, p, l, fin, h => by have := h.1; have := rel_ge r _ l fin h.2.2; omega
theorem rel_le : ∀ (xs : List Tk) (p : Nat) (l : List UInt8) (fin : Nat), LexR l p xs fin → p ≤ l.length → fin ≤ l.length
  | [], p, l, fin, h, hp => by
    have hsp := spLen_le false (l.drop p)
    rw [List.length_drop] at hsp
    have := h.1; omega
  | t :: r, p, l, fin, h, hp => by
    have hsp := spLen_le false (l.drop p)
    rw [List.length_drop] at hsp
    have hle := partOf_le (l.drop t.pos)
    rw [List.length_drop] at hle
    have := h.1
    exact rel_le r _ l fin h.2.2 (by omega)

/-- what Lex answers, by the relation -/
theorem lexS_rel {l : List UInt8} (h : l.length ≤ 30000) : ∃ xs fin, LexR l 0 xs fin ∧ fin ≤ l.length ∧ lexS l = if fin < l.length then ([], (fin : Int), 2) else (xs, 0, 0) := by
  have hr := lexF_rel (l.length + 1) 0 l (by omega) (by omega)
  rw [List.drop_zero] at hr
  refine ⟨_, _, hr, rel_le _ _ _ _ hr (by omega), ?_⟩
  unfold lexS
  rw [if_neg (by omega)]
theorem rel_lexS {l : List UInt8} {xs : List Tk} (h : l.length ≤ 30000) (hr : LexR l 0 xs l.length) : lexS l = (xs, 0, 0) := by
  have := rel_lexF xs (l.length + 1) 0 l _ hr (by omega) (by omega)
  rw [List.drop_zero] at this
  unfold lexS
  rw [if_neg (by omega), this, if_neg (by omega)]
theorem lexS_big {l : List UInt8} (h : 30000 < l.length) : lexS l = ([], 0, 3) := by unfold lexS; rw [if_pos h]

/-! cut -/
theorem spLen_take : ∀ (c : Bool) (l : List UInt8) (k : Nat), spLen c (l.take k) = min (spLen c l) k
  | c, [], k => by simp [spLen]
  | c, x :: r, 0 => by simp [spLen]
  | c, x :: r, k + 1 => by
    have h1 := spLen_take false r k
    have h2 := spLen_take true r k
    have h3 := spLen_take c r k
    rw [List.take_succ_cons]
    unfold spLen
    repeat' split
    all_goals omega
theorem wordLen_take (l : List UInt8) (k : Nat) : wordLen (l.take k) = min (wordLen l) k := by
  unfold wordLen
  induction l generalizing k with
  | nil => simp
  | cons x r ih =>
    cases k with
    | zero => simp
    | succ k =>
      rw [List.take_succ_cons]
      simp only [List.takeWhile_cons]
      split
      · simp only [List.length_cons, ih]; omega
      · simp
theorem find_congr' {α : Type} {p q : α → Bool} : ∀ {l : List α}, (∀ x ∈ l, p x = q x) → l.find? p = l.find? q
  | [], _ => rfl
  | x :: r, h => by
    rw [List.find?_cons, List.find?_cons, h x (by simp), find_congr' fun y hy => h y (by simp [hy])]
theorem pre_take {s l : List UInt8} {k : Nat} (h : s.isPrefixOf (l.take k) = true) : s.isPrefixOf l = true := by
  rw [List.isPrefixOf_iff_prefix] at *
  exact h.trans (List.take_prefix _ _)
theorem find_take : ∀ (ss : List (List UInt8)) (l : List UInt8) (k : Nat), ((ss.find? fun s => s.isPrefixOf l).getD []).length ≤ k → (∀ s ∈ ss, s ≠ []) → ((ss.find? fun s => s.isPrefixOf (l.take k)).getD []) = ((ss.find? fun s => s.isPrefixOf l).getD [])
  | [], l, k, _, _ => rfl
  | s :: r, l, k, h, hn => by
    rw [List.find?_cons] at *
    rw [List.find?_cons]
    cases hp : s.isPrefixOf l with
    | true =>
      rw [hp] at h
      have h' : s.length ≤ k := h
      have : s.isPrefixOf (l.take k) = true := by
        rw [List.isPrefixOf_iff_prefix] at *
        rw [List.prefix_take_iff]
        exact ⟨hp, h'⟩
      rw [this]
    | false =>
      rw [hp] at h
      have : s.isPrefixOf (l.take k) = false := by
        cases h2 : s.isPrefixOf (l.take k) with
        | false => rfl
        | true => rw [pre_take h2] at hp; cases hp
      rw [this]
      exact find_take r l k h fun x hx => hn x (by simp [hx])
theorem sym_ne : ∀ s ∈ symList, s ≠ [] := by decide
theorem partOf_take {l : List UInt8} {k : Nat} (h : (partOf l).length ≤ k) : partOf (l.take k) = partOf l := by
  unfold partOf at *
  rw [wordLen_take]
  split at h
  · rename_i h0
    rw [if_pos (by omega), if_pos h0]
    exact find_take symList l k h sym_ne
  · rename_i h0
    rw [List.length_take, Nat.min_eq_left (wordLen_le l)] at h
    rw [if_neg (by omega), if_neg h0, Nat.min_eq_left h, List.take_take, Nat.min_eq_left h]
theorem partOf_nil : partOf [] = [] := by decide
theorem rel_take : ∀ (xs : List Tk) (p : Nat) (l : List UInt8) (fin : Nat), LexR l p xs fin → LexR (l.take fin) p xs fin
  | [], p, l, fin, h => by
    obtain ⟨h1, h2⟩ := h
    refine ⟨?_, ?_⟩
    · rw [List.drop_take, spLen_take]; omega
    · rw [List.drop_take, Nat.sub_self, List.take_zero, partOf_nil]; exact tokS_nil
  | t :: r, p, l, fin, h => by
    obtain ⟨h1, h2, h3⟩ := h
    have hg := rel_ge _ _ _ _ h3
    have e : partOf ((l.take fin).drop t.pos) = partOf (l.drop t.pos) := by
      rw [List.drop_take]; exact partOf_take (by omega)
    refine ⟨?_, ?_, ?_⟩
    · rw [List.drop_take, spLen_take]; omega
    · rw [e]; exact h2
    · rw [e]; exact rel_take r _ l fin h3

/-! goes on -/
theorem spLen_app : ∀ (c : Bool) (a b : List UInt8), spLen c (a ++ 10 :: b) = if spLen c a < a.length then spLen c a else a.length + 1 + spLen false b
  | c, [], b => by simp [spLen]
  | c, x :: r, b => by
    have h1 := spLen_app false r b
    have h2 := spLen_app true r b
    have h3 := spLen_app c r b
    have g1 := spLen_le false r
    have g2 := spLen_le true r
    have g3 := spLen_le c r
    rw [List.cons_append]
    by_cases a1 : x = 10
    · simp only [spLen, if_pos a1, List.length_cons, h1]
      split <;> split <;> omega
    · by_cases a2 : x = 35
      · simp only [spLen, if_neg a1, if_pos a2, List.length_cons, h2]
        split <;> split <;> omega
      · by_cases a3 : (c || x == 32 || x == 9) = true
        · simp only [spLen, if_neg a1, if_neg a2, if_pos a3, List.length_cons, h3]
          split <;> split <;> omega
        · simp only [spLen, if_neg a1, if_neg a2, if_neg a3, List.length_cons]
          rw [if_pos (by omega)]
/-- a byte that is in no word and in no symbol -/
def Gap (g : UInt8) : Prop := kb g = 0 ∧ ∀ s ∈ symList, g ∉ s
theorem gap_10 : Gap 10 := ⟨by decide, by decide⟩
theorem gap_32 : Gap 32 := ⟨by decide, by decide⟩
theorem wordLen_app {g : UInt8} (hg : Gap g) (a b : List UInt8) : wordLen (a ++ g :: b) = wordLen a := by
  unfold wordLen
  induction a with
  | nil => simp [hg.1]
  | cons x r ih =>
    rw [List.cons_append, List.takeWhile_cons, List.takeWhile_cons]
    split
    · simp only [List.length_cons, ih]
    · rfl
theorem pre_app {g : UInt8} : ∀ (s a b : List UInt8), g ∉ s → s.isPrefixOf (a ++ g :: b) = s.isPrefixOf a
  | [], a, b, _ => by simp
  | x :: s, [], b, h => by
    have hx : (x == g) = false := beq_eq_false_iff_ne.2 fun e => h (by simp [e])
    show ((x == g) && _) = false
    rw [hx]; rfl
  | x :: s, y :: a, b, h => by
    have ih := pre_app s a b fun e => h (List.mem_cons_of_mem _ e)
    show ((x == y) && s.isPrefixOf (a ++ g :: b)) = ((x == y) && s.isPrefixOf a)
    rw [ih]
theorem symAt_app {g : UInt8} (hg : Gap g) (a b : List UInt8) : symAt (a ++ g :: b) = symAt a := by
  unfold symAt
  rw [find_congr' fun s hs => pre_app s a b (hg.2 s hs)]
theorem partOf_app {g : UInt8} (hg : Gap g) (a b : List UInt8) : partOf (a ++ g :: b) = partOf a := by
  unfold partOf
  rw [wordLen_app hg, symAt_app hg]
  split
  · rfl
  · rw [List.take_append_of_le_length (wordLen_le a)]

def shift (d : Nat) (t : Tk) : Tk := ⟨t.kind, t.s, t.n, t.pos + d⟩
theorem rel_shift : ∀ (ys : List Tk) (q : Nat) (a b : List UInt8) (fin : Nat), LexR b q ys fin → LexR (a ++ b) (q + a.length) (ys.map (shift a.length)) (fin + a.length)
  | [], q, a, b, fin, h => by
    obtain ⟨h1, h2⟩ := h
    have e : ∀ n, (a ++ b).drop (n + a.length) = b.drop n := fun n => by rw [Nat.add_comm, List.drop_length_add_append]
    exact ⟨by rw [e]; omega, by rw [e]; exact h2⟩
  | t :: r, q, a, b, fin, h => by
    obtain ⟨h1, h2, h3⟩ := h
    have e : ∀ n, (a ++ b).drop (n + a.length) = b.drop n := fun n => by rw [Nat.add_comm, List.drop_length_add_append]
    refine ⟨?_, ?_, ?_⟩
    · rw [e]; show t.pos + a.length = _; omega
    · show tokS (partOf ((a ++ b).drop (t.pos + a.length))) = _
      rw [e]; exact h2
    · show LexR (a ++ b) (t.pos + a.length + (partOf ((a ++ b).drop (t.pos + a.length))).length) _ _
      rw [e]
      have := rel_shift r _ a b fin h3
      rwa [Nat.add_right_comm] at this
/-- the search begins elsewhere, with space between -/
theorem rel_space {l : List UInt8} {p q : Nat} {xs : List Tk} {fin : Nat} (h : LexR l q xs fin) (e : p + spLen false (l.drop p) = q + spLen false (l.drop q)) : LexR l p xs fin := by
  cases xs with
  | nil => exact ⟨by rw [e]; exact h.1, h.2⟩
  | cons t r => exact ⟨by rw [e]; exact h.1, h.2⟩
theorem rel_app : ∀ (xs : List Tk) (p : Nat) (a b : List UInt8) (ys : List Tk) (fin : Nat), p ≤ a.length → LexR a p xs a.length → LexR b 0 ys fin → LexR (a ++ 10 :: b) p (xs ++ ys.map (shift (a.length + 1))) (fin + (a.length + 1))
  | [], p, a, b, ys, fin, hp, h, hb => by
    have hs := rel_shift ys 0 (a ++ [10]) b fin hb
    rw [List.append_assoc, List.length_append, List.length_singleton, List.singleton_append, Nat.zero_add] at hs
    rw [List.nil_append]
    refine rel_space hs ?_
    have e1 : (a ++ 10 :: b).drop p = a.drop p ++ 10 :: b := List.drop_append_of_le_length hp
    have e2 : (a ++ 10 :: b).drop (a.length + 1) = b := by
      rw [List.drop_length_add_append]; rfl
    have h1 := h.1
    have hsp := spLen_le false (a.drop p)
    rw [List.length_drop] at hsp
    rw [e1, e2, spLen_app, List.length_drop, if_neg (by omega)]
    omega
  | t :: r, p, a, b, ys, fin, hp, h, hb => by
    obtain ⟨h1, h2, h3⟩ := h
    have hsp := spLen_le false (a.drop p)
    rw [List.length_drop] at hsp
    have hle := partOf_le (a.drop t.pos)
    rw [List.length_drop] at hle
    have hpos := part_pos h2
    have e1 : (a ++ 10 :: b).drop p = a.drop p ++ 10 :: b := List.drop_append_of_le_length hp
    have e2 : (a ++ 10 :: b).drop t.pos = a.drop t.pos ++ 10 :: b := List.drop_append_of_le_length (by omega)
    refine ⟨?_, ?_, ?_⟩
    · rw [e1, spLen_app, List.length_drop, if_pos (by omega)]; exact h1
    · rw [e2, partOf_app gap_10]; exact h2
    · rw [e2, partOf_app gap_10]
      exact rel_app r _ a b ys fin (by omega) h3 hb

/-- the first text, a line feed, and the second one -/
theorem lexS_app {a b : List UInt8} {xs ys : List Tk} {x y : Int} (ha : lexS a = (xs, x, 0)) (hb : lexS b = (ys, y, 0)) (h : a.length + 1 + b.length ≤ 30000) :
    lexS (a ++ 10 :: b) = (xs ++ ys.map (shift (a.length + 1)), 0, 0) := by
  obtain ⟨xs', fa, ra, la, ea⟩ := lexS_rel (l := a) (by omega)
  obtain ⟨ys', fb, rb, lb, eb⟩ := lexS_rel (l := b) (by omega)
  rw [ha] at ea
  rw [hb] at eb
  split at ea
  · injection ea with _ e; injection e with _ e; cases e
  · split at eb
    · injection eb with _ e; injection e with _ e; cases e
    · injection ea with ea _
      injection eb with eb _
      subst ea; subst eb
      obtain rfl : fa = a.length := by omega
      obtain rfl : fb = b.length := by omega
      have := rel_app _ 0 a b _ _ (by omega) ra rb
      have hl : (a ++ 10 :: b).length = b.length + (a.length + 1) := by simp; omega
      rw [← hl] at this
      exact rel_lexS (by rw [hl]; omega) this
/-- what is before a malformed byte -/
theorem lexS_cut {a : List UInt8} {xs : List Tk} {x : Int} (ha : lexS a = (xs, x, 2)) : ∃ k ys, x = (k : Nat) ∧ k < a.length ∧ a.length ≤ 30000 ∧ lexS (a.take k) = (ys, 0, 0) := by
  by_cases hl : a.length ≤ 30000
  · obtain ⟨xs', fa, ra, la, ea⟩ := lexS_rel hl
    rw [ha] at ea
    split at ea
    · rename_i hlt
      injection ea with _ e; injection e with e _
      refine ⟨fa, xs', e, hlt, hl, ?_⟩
      have := rel_take _ _ _ _ ra
      have hlen : (a.take fa).length = fa := by rw [List.length_take]; omega
      have h2 := rel_lexS (l := a.take fa) (xs := xs') (by omega) (by rw [hlen]; exact this)
      exact h2
    · injection ea with _ e; injection e with _ e; cases e
  · rw [lexS_big (by omega)] at ha
    injection ha with _ e; injection e with _ e; cases e
end Go.Proofs.YtdnolbbkphgfiaaDoor
