/- What is joined is divided into the same tokens again. -/
import Derived.Test.YtdnolbbkphgfiaaDoorRel
import Derived.Test.YtdnolbbkphgfiaaDoorSame
namespace Go.Proofs.YtdnolbbkphgfiaaDoor

theorem sym_first : symList.all (fun s => match s with | [] => false | c :: _ => c != 10 && c != 35 && c != 32 && c != 9) = true := by decide +kernel
theorem sym_part : symList.all (fun s => partOf s == s) = true := by decide +kernel
theorem tok_first {x s : List UInt8} {k n : Int} (h : tokS x = some (k, s, n)) : partOf x = x ∧ ∃ c r, x = c :: r ∧ c ≠ 10 ∧ c ≠ 35 ∧ c ≠ 32 ∧ c ≠ 9 := by
  have word : x ≠ [] → (∀ c ∈ x, kb c ≠ 0) → partOf x = x ∧ ∃ c r, x = c :: r ∧ c ≠ 10 ∧ c ≠ 35 ∧ c ≠ 32 ∧ c ≠ 9 := fun hn ha => by
    refine ⟨partOf_word hn ha, ?_⟩
    cases x with
    | nil => exact absurd rfl hn
    | cons c r => exact ⟨c, r, rfl, kb_space (ha c (by simp))⟩
  rcases tokS_class h with ⟨_, _, hi⟩ | ⟨_, _, ⟨_, hk⟩ | ⟨_, hk, _⟩ | ⟨_, hk⟩ | ⟨_, hk⟩⟩
  · obtain ⟨e, hb⟩ := integerS_canon hi
    have := itoa_word hb
    rw [← e] at this
    exact word this.1 this.2
  · have := isNm_all (isKw_nm hk); exact word this.1 this.2.1
  · have := isNm_all hk; exact word this.1 this.2.1
  · have := isNm_all hk; exact word this.1 this.2.1
  · unfold isSym at hk
    rw [List.contains_iff_mem] at hk
    have h1 := List.all_eq_true.1 sym_first x hk
    have h2 := List.all_eq_true.1 sym_part x hk
    refine ⟨by simpa using h2, ?_⟩
    cases x with
    | nil => cases h1
    | cons c r =>
      simp only [Bool.and_eq_true, bne_iff_ne] at h1
      exact ⟨c, r, rfl, h1.1.1.1, h1.1.1.2, h1.1.2, h1.2⟩
theorem spLen_first {c : UInt8} {r : List UInt8} (h : c ≠ 10 ∧ c ≠ 35 ∧ c ≠ 32 ∧ c ≠ 9) : spLen false (c :: r) = 0 := by
  obtain ⟨h1, h2, h3, h4⟩ := h
  simp [spLen, h1, h2, h3, h4]

abbrev Key := Int × List UInt8 × Int
def key (t : Tk) : Key := (t.kind, t.s, t.n)
def rkey (t : Rt) : Key := (t.k, t.s.data.toList, t.n)
def ktext (x : Key) : List UInt8 := textS x.1 x.2.1 x.2.2
theorem join_cons2 (x y : List UInt8) (r : List (List UInt8)) : Lib.join (x :: y :: r) [32] = x ++ 32 :: Lib.join (y :: r) [32] := by
  unfold Lib.join List.intercalate
  rw [List.intersperse_cons_cons, List.flatten_cons, List.flatten_cons]
  rfl
theorem join_one (x : List UInt8) : Lib.join [x] [32] = x := by
  unfold Lib.join List.intercalate
  simp
theorem join_rel : ∀ (ks : List Key), (∀ x ∈ ks, tokS (ktext x) = some x) → ∃ ys : List Tk, LexR (Lib.join (ks.map ktext) [32]) 0 ys (Lib.join (ks.map ktext) [32]).length ∧ ys.map key = ks
  | [], _ => ⟨[], ⟨by decide, by decide⟩, rfl⟩
  | [x], h => by
    obtain ⟨k, s, n⟩ := x
    have ht := h (k, s, n) (by simp)
    obtain ⟨hp, c, r, hx, hc⟩ := tok_first ht
    have e : Lib.join ([(k, s, n)].map ktext) [32] = ktext (k, s, n) := join_one _
    rw [e]
    have hsp : spLen false (ktext (k, s, n)) = 0 := by rw [hx]; exact spLen_first hc
    refine ⟨[⟨k, s, n, 0⟩], ⟨?_, ?_, ?_, ?_⟩, rfl⟩
    · rw [List.drop_zero, hsp]
    · show tokS (partOf ((ktext (k, s, n)).drop 0)) = _
      rw [List.drop_zero, hp]; exact ht
    · simp only [List.drop_zero, hp, Nat.zero_add, List.drop_length]; rfl
    · rw [List.drop_length, partOf_nil]; exact tokS_nil
  | x :: y :: r, h => by
    obtain ⟨k, s, n⟩ := x
    have ht := h (k, s, n) (by simp)
    obtain ⟨hp, c, r', hx, hc⟩ := tok_first ht
    obtain ⟨ys, hr, hy⟩ := join_rel (y :: r) fun z hz => h z (by simp at hz ⊢; exact .inr hz)
    have e : Lib.join (((k, s, n) :: y :: r).map ktext) [32] = ktext (k, s, n) ++ 32 :: Lib.join ((y :: r).map ktext) [32] := join_cons2 _ _ _
    rw [e]
    obtain ⟨J, hJ⟩ : ∃ J, J = Lib.join ((y :: r).map ktext) [32] := ⟨_, rfl⟩
    obtain ⟨X, hX⟩ : ∃ X, X = ktext (k, s, n) := ⟨_, rfl⟩
    rw [← hJ] at hr ⊢
    rw [← hX] at ht hp hx ⊢
    have hs := rel_shift ys 0 (X ++ [32]) J _ hr
    rw [List.append_assoc, List.length_append, List.length_singleton, List.singleton_append, Nat.zero_add] at hs
    have d1 : (X ++ 32 :: J).drop X.length = 32 :: J := List.drop_left
    have d2 : (X ++ 32 :: J).drop (X.length + 1) = J := by rw [List.drop_length_add_append]; rfl
    have hsp : spLen false (32 :: J) = 1 + spLen false J := by simp [spLen]
    have hs2 := rel_space (p := X.length) hs (by rw [d1, d2, hsp]; omega)
    have hsx : spLen false (X ++ 32 :: J) = 0 := by rw [hx]; exact spLen_first hc
    have hpx : partOf (X ++ 32 :: J) = X := by rw [partOf_app gap_32, hp]
    refine ⟨⟨k, s, n, 0⟩ :: ys.map (shift (X.length + 1)), ⟨?_, ?_, ?_⟩, ?_⟩
    · rw [List.drop_zero, hsx]
    · show tokS (partOf ((X ++ 32 :: J).drop 0)) = _
      rw [List.drop_zero, hpx]; exact ht
    · simp only [List.drop_zero, hpx, Nat.zero_add]
      rw [List.length_append, List.length_cons, show X.length + (J.length + 1) = J.length + (X.length + 1) by omega]
      exact hs2
    · rw [List.map_cons, List.map_map]
      exact congrArg _ hy

theorem text_key (t : Rt) : t.text = ktext (rkey t) := rfl
theorem joinS_ok {ts : List Rt} {l : List UInt8} {e : Int} (h : joinS ts = (l, e)) (he : e = 0) : l.length ≤ 30000 ∧ ∃ ys : List Tk, lexS l = (ys, 0, 0) ∧ ys.map key = ts.map rkey := by
  subst he
  unfold joinS at h
  split at h
  · rename_i hv
    split at h
    · injection h with _ h; cases h
    · rename_i hl
      injection h with h _
      have hlen := join_len ts
      rw [h] at hlen
      have hm : (ts.map fun t => t.text) = (ts.map rkey).map ktext := by rw [List.map_map]; rfl
      obtain ⟨ys, hr, hy⟩ := join_rel (ts.map rkey) fun x hx => by
        obtain ⟨t, ht, rfl⟩ := List.mem_map.1 hx
        have := List.all_eq_true.1 hv t ht
        unfold Rt.valid validS at this
        exact of_decide_eq_true this
      rw [← hm, h] at hr
      exact ⟨by omega, ys, rel_lexS (by omega) hr, hy⟩
  · injection h with _ h; cases h

theorem rel_sum : ∀ (xs : List Tk) (p : Nat) (l : List UInt8) (fin : Nat), LexR l p xs fin → p ≤ l.length → p + (xs.map fun t => (txt t).length).sum ≤ l.length ∧ xs.length ≤ (xs.map fun t => (txt t).length).sum
  | [], p, l, fin, h, hp => by simpa using hp
  | t :: r, p, l, fin, h, hp => by
    obtain ⟨h1, h2, h3⟩ := h
    have hsp := spLen_le false (l.drop p)
    rw [List.length_drop] at hsp
    have hle := partOf_le (l.drop t.pos)
    rw [List.length_drop] at hle
    have hpos := part_pos h2
    have hx : txt t = partOf (l.drop t.pos) := tok_text h2
    have := rel_sum r _ l fin h3 (by omega)
    simp only [List.map_cons, List.sum_cons, List.length_cons, hx]
    omega
theorem rt_text (t : Tk) : (rt t).text = txt t := rfl
/-- the tokens of a text, joined -/
theorem joinS_lex {l : List UInt8} {xs : List Tk} {x : Int} (h : lexS l = (xs, x, 0)) :
    (∃ t ys, joinS (xs.map rt) = (t, 0) ∧ t.length ≤ 30000 ∧ lexS t = (ys, 0, 0) ∧ ys.map key = xs.map key) ∨ (∃ t, joinS (xs.map rt) = (t, 3) ∧ 30000 < 2 * l.length) := by
  have hv : ((xs.map rt).all fun t => t.valid) = true := by
    rw [List.all_eq_true]
    intro t ht
    obtain ⟨x, hx, rfl⟩ := List.mem_map.1 ht
    obtain ⟨p, hp⟩ := lexS_mem h hx
    have := tok_text hp
    unfold Rt.valid validS
    show decide (tokS (textS x.kind x.s x.n) = some (x.kind, x.s, x.n)) = true
    rw [this, hp]; simp
  by_cases h3 : 30000 < tot (xs.map rt)
  · right
    refine ⟨[], by unfold joinS; rw [if_pos hv, if_pos h3], ?_⟩
    by_cases hl : l.length ≤ 30000
    · obtain ⟨xs', fin, hr, hf, e⟩ := lexS_rel hl
      rw [h] at e
      split at e
      · injection e with _ e; injection e with _ e; cases e
      · injection e with e _
        subst e
        have hs := rel_sum _ 0 l fin hr (by omega)
        unfold tot at h3
        rw [List.map_map, List.length_map, show (fun t : Rt => t.text.length) ∘ rt = fun t => (txt t).length from rfl] at h3
        omega
    · omega
  · left
    have e : joinS (xs.map rt) = (Lib.join ((xs.map rt).map fun t => t.text) [32], 0) := by unfold joinS; rw [if_pos hv, if_neg h3]
    obtain ⟨hl, ys, h1, h2⟩ := joinS_ok e rfl
    refine ⟨_, ys, e, hl, h1, ?_⟩
    rw [h2, List.map_map]
    rfl
theorem lexS_err {l : List UInt8} {xs : List Tk} {x e : Int} (h : lexS l = (xs, x, e)) (he : e ≠ 0) : xs = [] ∧ ((e = 2 ∧ 0 ≤ x ∧ x < l.length) ∨ (e = 3 ∧ x = 0)) := by
  unfold lexS at h
  split at h
  · injection h with h1 h; injection h with h2 h3
    exact ⟨h1.symm, .inr ⟨h3.symm, h2.symm⟩⟩
  · split at h
    · injection h with h1 h; injection h with h2 h3
      exact ⟨h1.symm, .inl ⟨h3.symm, by omega, by omega⟩⟩
    · injection h with h1 h; injection h with h2 h3
      exact absurd h3.symm he
end Go.Proofs.YtdnolbbkphgfiaaDoor
