/- Plain laws: numerals, and the tokens of one word. -/
import Derived.Test.YtdnolbbkphgfiaaDoorRefA
namespace Go.Proofs.YtdnolbbkphgfiaaDoor
open Go.RowKit

theorem intGo_app : ∀ (a b : List UInt8) (n : Int), intGo n (a ++ b) = (intGo n a).bind (fun m => intGo m b)
  | [], b, n => rfl
  | c :: r, b, n => by
    simp only [List.cons_append, intGo]
    split
    · split
      · rfl
      · exact intGo_app r b _
    · rfl
theorem dig_ofNat {n : Int} (h : 0 ≤ n ∧ n < 10) : kb (UInt8.ofNat (48 + n.toNat)) = 3 ∧ ((UInt8.ofNat (48 + n.toNat)).toNat : Int) = 48 + n ∧ (n ≠ 0 → UInt8.ofNat (48 + n.toNat) ≠ 48) := by
  have : n = 0 ∨ n = 1 ∨ n = 2 ∨ n = 3 ∨ n = 4 ∨ n = 5 ∨ n = 6 ∨ n = 7 ∨ n = 8 ∨ n = 9 := by omega
  rcases this with rfl | rfl | rfl | rfl | rfl | rfl | rfl | rfl | rfl | rfl <;> decide
theorem intGo_one {m n : Int} (_hm : 0 ≤ m) (h : 0 ≤ n ∧ n < 10) (hb : 10 * m + n ≤ 999999999) : intGo m [UInt8.ofNat (48 + n.toNat)] = some (10 * m + n) := by
  obtain ⟨h1, h2, _⟩ := dig_ofNat h
  simp only [intGo]
  rw [if_pos h1, h2, if_neg (by omega)]
  congr 1; omega
theorem intGo_itoa : ∀ (k : Nat) (n : Int), n.toNat < k → 0 ≤ n ∧ n ≤ 999999999 → intGo 0 (Lib.itoa n) = some n
  | 0, n, h, _ => by omega
  | k + 1, n, hk, h => by
    by_cases h10 : n < 10
    · rw [itoa_small ⟨h.1, h10⟩, intGo_one (by omega) ⟨h.1, h10⟩ (by omega)]; congr 1; omega
    · rw [itoa_big (by omega), intGo_app, intGo_itoa k (n / 10) (by omega) (by omega), Option.bind_some, itoa_small (n := n % 10) (by omega), intGo_one (by omega) (by omega) (by omega)]
      congr 1; omega
theorem itoa_head : ∀ (k : Nat) (n : Int), n.toNat < k → 1 ≤ n → ∃ c r, Lib.itoa n = c :: r ∧ c ≠ 48
  | 0, n, h, _ => by omega
  | k + 1, n, hk, h => by
    by_cases h10 : n < 10
    · exact ⟨_, _, itoa_small (n := n) (by omega), (dig_ofNat (n := n) (by omega)).2.2 (by omega)⟩
    · obtain ⟨c, r, e, hc⟩ := itoa_head k (n / 10) (by omega) (by omega)
      exact ⟨c, r ++ Lib.itoa (n % 10), by rw [itoa_big (by omega), e]; rfl, hc⟩
theorem integerS_itoa {n : Int} (h : 0 ≤ n ∧ n ≤ 999999999) : integerS (Lib.itoa n) = some n := by
  have h1 := intGo_itoa (n.toNat + 1) n (by omega) h
  by_cases h10 : n < 10
  · rw [itoa_small ⟨h.1, h10⟩] at h1 ⊢
    simpa [integerS] using h1
  · obtain ⟨c, r, e, hc⟩ := itoa_head (n.toNat + 1) n (by omega) (by omega)
    rw [e] at h1 ⊢
    simp only [integerS]
    rw [if_neg (by simp [hc])]
    exact h1

/-- the converse -/
theorem intGo_ge : ∀ (l : List UInt8) (m n : Int), 0 ≤ m → intGo m l = some n → m ≤ n ∧ (l ≠ [] → n ≤ 999999999)
  | [], m, n, hm, h => by simp only [intGo, Option.some.injEq] at h; subst h; exact ⟨Int.le_refl _, fun h => absurd rfl h⟩
  | c :: r, m, n, hm, h => by
    simp only [intGo] at h
    split at h
    · rename_i hk
      have hd := kindI_3 hk
      split at h
      · cases h
      · rename_i hle
        have := intGo_ge r _ n (by omega) h
        refine ⟨by omega, fun _ => ?_⟩
        rcases r with _ | ⟨d, r⟩
        · simp only [intGo, Option.some.injEq] at h; omega
        · exact this.2 (by simp)
    · cases h
theorem dig_inv {c : UInt8} (h : kb c = 3) : ∃ n : Int, (0 ≤ n ∧ n < 10) ∧ (c.toNat : Int) = 48 + n ∧ c = UInt8.ofNat (48 + n.toNat) := by
  have := kindI_3 h
  refine ⟨(c.toNat : Int) - 48, by omega, by omega, ?_⟩
  rw [show 48 + ((c.toNat : Int) - 48).toNat = c.toNat from by omega]
  exact (UInt8.ofNat_toNat).symm
theorem integerS_some {l : List UInt8} {n : Int} (h : integerS l = some n) : l ≠ [] ∧ intGo 0 l = some n ∧ (1 < l.length → l[0]? ≠ some 48) := by
  cases l with
  | nil => cases h
  | cons c r =>
    simp only [integerS] at h
    split at h
    · cases h
    · rename_i hz
      simp only [Bool.and_eq_true, decide_eq_true_eq, beq_iff_eq, not_and] at hz
      refine ⟨by simp, h, fun hl he => ?_⟩
      simp only [List.getElem?_cons_zero, Option.some.injEq] at he
      exact hz (by simpa using hl) he
theorem itoa_canon : ∀ (k : Nat) (l : List UInt8) (n : Int), l.length ≤ k → l ≠ [] → intGo 0 l = some n → (1 < l.length → l[0]? ≠ some 48) → l = Lib.itoa n ∧ 0 ≤ n ∧ n ≤ 999999999
  | 0, l, n, hk, hne, _, _ => by have := List.eq_nil_of_length_eq_zero (by omega : l.length = 0); exact absurd this hne
  | k + 1, l, n, hk, hne, h, hz => by
    obtain ⟨p, c, rfl⟩ : ∃ p c, l = p ++ [c] := ⟨l.dropLast, l.getLast hne, (List.dropLast_concat_getLast hne).symm⟩
    rw [intGo_app] at h
    cases hp : intGo 0 p with
    | none => rw [hp] at h; cases h
    | some m =>
      rw [hp, Option.bind_some] at h
      have hm := intGo_ge p 0 m (by omega) hp
      have hc : kb c = 3 := by
        simp only [intGo] at h
        split at h
        · assumption
        · cases h
      obtain ⟨d, hd, e1, e2⟩ := dig_inv hc
      have hn : n = 10 * m + d ∧ n ≤ 999999999 := by
        simp only [intGo] at h
        rw [if_pos hc, e1] at h
        split at h
        · cases h
        · rename_i hle
          simp only [Option.some.injEq] at h
          omega
      rcases p with _ | ⟨x, r⟩
      · simp only [intGo, Option.some.injEq] at hp
        subst hp
        obtain ⟨rfl, hb⟩ := hn
        refine ⟨?_, by omega, hb⟩
        rw [itoa_small (by omega), e2, show (10 * 0 + d : Int) = d from by omega]; rfl
      · have ih := itoa_canon k (x :: r) m (by simp at hk ⊢; omega) (by simp) hp (fun _ he => by
          refine hz (by simp) ?_
          simpa using he)
        have hm1 : 1 ≤ m := by
          rcases Int.lt_or_le m 1 with h1 | h1
          · have : m = 0 := by omega
            rw [this] at ih
            have h48 : (x :: r)[0]? = some 48 := by rw [ih.1, itoa_small (by omega)]; rfl
            exact absurd (by simpa using h48) (hz (by simp))
          · exact h1
        obtain ⟨rfl, hb⟩ := hn
        refine ⟨?_, by omega, hb⟩
        rw [itoa_big (by omega), show (10 * m + d) / 10 = m from by omega, show (10 * m + d) % 10 = d from by omega, ← ih.1, itoa_small hd, e2]
theorem integerS_canon {l : List UInt8} {n : Int} (h : integerS l = some n) : l = Lib.itoa n ∧ 0 ≤ n ∧ n ≤ 999999999 := by
  obtain ⟨h1, h2, h3⟩ := integerS_some h
  exact itoa_canon l.length l n (Nat.le_refl _) h1 h2 h3

/-! one word -/
theorem kb_space {c : UInt8} (h : kb c ≠ 0) : c ≠ 10 ∧ c ≠ 35 ∧ c ≠ 32 ∧ c ≠ 9 := by
  refine ⟨?_, ?_, ?_, ?_⟩ <;> (rintro rfl; exact h (by decide))
theorem spLen_word {c : UInt8} {r : List UInt8} (h : kb c ≠ 0) : spLen false (c :: r) = 0 := by
  obtain ⟨h1, h2, h3, h4⟩ := kb_space h
  simp [spLen, h1, h2, h3, h4]
theorem wordLen_all {l : List UInt8} (h : ∀ c ∈ l, kb c ≠ 0) : wordLen l = l.length := by
  unfold wordLen
  congr 1
  induction l with
  | nil => rfl
  | cons c r ih =>
    rw [List.takeWhile_cons, if_pos (by simpa using h c (by simp)), ih (fun x hx => h x (by simp [hx]))]
theorem partOf_word {l : List UInt8} (hne : l ≠ []) (h : ∀ c ∈ l, kb c ≠ 0) : partOf l = l := by
  unfold partOf
  rw [wordLen_all h, if_neg (fun e => hne (List.eq_nil_of_length_eq_zero e)), List.take_length]
theorem lexF_nil (f off : Nat) : lexF f off [] = ([], off) := by
  cases f with
  | zero => rfl
  | succ f =>
    have : tokS (partOf (([] : List UInt8).drop (spLen false []))) = none := by decide
    simp only [lexF]
    rw [this]
    rfl
theorem lexS_word {l : List UInt8} {k n : Int} {s : List UInt8} (hne : l ≠ []) (h : ∀ c ∈ l, kb c ≠ 0) (hl : l.length ≤ 30000) (ht : tokS l = some (k, s, n)) : lexS l = ([⟨k, s, n, 0⟩], 0, 0) := by
  have hsp : spLen false l = 0 := by
    cases l with
    | nil => exact absurd rfl hne
    | cons c r => exact spLen_word (h c (by simp))
  have hp := partOf_word hne h
  have hF : lexF (l.length + 1) 0 l = ([⟨k, s, n, 0⟩], l.length) := by
    have := lexF_some (f := l.length) (p := 0) (o := 0) (l := l) (k := k) (n := n) (s := s) (by rw [List.drop_zero, hsp]) (by rw [List.drop_zero, hp]; exact ht)
    rw [List.drop_zero, hp] at this
    rw [this, Nat.zero_add, List.drop_length, lexF_nil]
  unfold lexS
  rw [if_neg (by omega), hF, if_neg (by simp)]
theorem isNm_all {f : Int} {l : List UInt8} (h : isNm f l = true) : l ≠ [] ∧ (∀ c ∈ l, kb c ≠ 0) ∧ l.length ≤ 12 ∧ ∃ c r, l = c :: r ∧ kb c = f := by
  cases l with
  | nil => cases h
  | cons c r =>
    simp only [isNm, Bool.and_eq_true, decide_eq_true_eq, beq_iff_eq, List.all_eq_true, bne_iff_ne] at h
    exact ⟨by simp, h.2, by simp only [List.length_cons]; omega, c, r, rfl, h.1.2⟩
theorem isKw_nm {l : List UInt8} (h : isKw l = true) : isNm 1 l = true := by
  have hall : kwList.all (fun k => isNm 1 k) = true := by decide +kernel
  unfold isKw at h
  rw [List.contains_iff_mem] at h
  exact List.all_eq_true.1 hall l h
theorem nm_excl {l : List UInt8} (h : isNm 2 l = true) : isNm 1 l = false := by
  obtain ⟨_, _, _, c, r, rfl, hc⟩ := isNm_all h
  exact isNm_first (by simp) (by simp [hc])
theorem int_word {f : Int} {l : List UInt8} (hf : f ≠ 3) (h : isNm f l = true) : integerS l = none := by
  obtain ⟨_, _, _, c, r, rfl, hc⟩ := isNm_all h
  have : intGo 0 (c :: r) = none := by simp only [intGo]; rw [if_neg (by rw [hc]; exact hf)]
  simp only [integerS, this]
  split <;> rfl
theorem tok_var {l : List UInt8} (h : isNm 1 l = true) (hk : isKw l = false) : tokS l = some (0, l, 0) := by
  unfold tokS; rw [int_word (by decide) h]; simp only []; rw [if_neg (by simp [hk]), if_pos h]
theorem tok_kw {l : List UInt8} (hk : isKw l = true) : tokS l = some (1, l, 0) := by
  unfold tokS; rw [int_word (by decide) (isKw_nm hk)]; simp only []; rw [if_pos hk]
theorem tok_upper {l : List UInt8} (h : isNm 2 l = true) : tokS l = some (2, l, 0) := by
  have h1 := nm_excl h
  have hk : isKw l = false := by
    rcases Bool.eq_false_or_eq_true (isKw l) with e | e
    · rw [isKw_nm e] at h1; cases h1
    · exact e
  unfold tokS; rw [int_word (by decide) h]; simp only []; rw [if_neg (by simp [hk]), if_neg (by simp [h1]), if_pos h]
theorem tok_int {n : Int} (h : 0 ≤ n ∧ n ≤ 999999999) : tokS (Lib.itoa n) = some (3, [], n) := by
  unfold tokS; rw [integerS_itoa h]
theorem tokS_class {l s : List UInt8} {k n : Int} (h : tokS l = some (k, s, n)) : (k = 3 ∧ s = [] ∧ integerS l = some n) ∨ (s = l ∧ n = 0 ∧ ((k = 1 ∧ isKw l = true) ∨ (k = 0 ∧ isNm 1 l = true ∧ isKw l = false) ∨ (k = 2 ∧ isNm 2 l = true) ∨ (k = 4 ∧ isSym l = true))) := by
  unfold tokS at h
  split at h
  · rename_i m hm
    simp only [Option.some.injEq, Prod.mk.injEq] at h
    obtain ⟨rfl, rfl, rfl⟩ := h
    exact .inl ⟨rfl, rfl, hm⟩
  · right
    split at h
    · rename_i hk; simp only [Option.some.injEq, Prod.mk.injEq] at h; obtain ⟨rfl, rfl, rfl⟩ := h; exact ⟨rfl, rfl, .inl ⟨rfl, hk⟩⟩
    · rename_i hk
      split at h
      · rename_i h1; simp only [Option.some.injEq, Prod.mk.injEq] at h; obtain ⟨rfl, rfl, rfl⟩ := h; exact ⟨rfl, rfl, .inr (.inl ⟨rfl, h1, by simpa using hk⟩)⟩
      · split at h
        · rename_i h2; simp only [Option.some.injEq, Prod.mk.injEq] at h; obtain ⟨rfl, rfl, rfl⟩ := h; exact ⟨rfl, rfl, .inr (.inr (.inl ⟨rfl, h2⟩))⟩
        · split at h
          · rename_i h3; simp only [Option.some.injEq, Prod.mk.injEq] at h; obtain ⟨rfl, rfl, rfl⟩ := h; exact ⟨rfl, rfl, .inr (.inr (.inr ⟨rfl, h3⟩))⟩
          · cases h
theorem itoa_word {n : Int} (h : 0 ≤ n ∧ n ≤ 999999999) : Lib.itoa n ≠ [] ∧ (∀ c ∈ Lib.itoa n, kb c ≠ 0) := by
  have key : ∀ (k : Nat) (n : Int), n.toNat < k → 0 ≤ n → Lib.itoa n ≠ [] ∧ (∀ c ∈ Lib.itoa n, kb c ≠ 0) := by
    intro k
    induction k with
    | zero => intro n h; omega
    | succ k ih =>
      intro n hk h0
      have one : ∀ d : Int, 0 ≤ d ∧ d < 10 → Lib.itoa d ≠ [] ∧ (∀ c ∈ Lib.itoa d, kb c ≠ 0) := by
        intro d hd
        rw [itoa_small hd]
        refine ⟨by simp, fun c hc => ?_⟩
        simp only [List.mem_cons, List.not_mem_nil, or_false] at hc
        subst hc
        rw [(dig_ofNat hd).1]; decide
      by_cases h10 : n < 10
      · exact one n ⟨h0, h10⟩
      · rw [itoa_big (by omega)]
        have h1 := ih (n / 10) (by omega) (by omega)
        have h2 := one (n % 10) (by omega)
        refine ⟨by simp [h1.1], fun c hc => ?_⟩
        rcases List.mem_append.1 hc with hc | hc
        · exact h1.2 c hc
        · exact h2.2 c hc
  exact key (n.toNat + 1) n (by omega) h.1
/-- each token of a text is of a part of it -/
theorem lexF_mem : ∀ (f off : Nat) (l : List UInt8) (t : Tk), t ∈ (lexF f off l).1 → ∃ p, tokS p = some (t.kind, t.s, t.n)
  | 0, off, l, t, h => by simp [lexF] at h
  | f + 1, off, l, t, h => by
    simp only [lexF] at h
    split at h
    · simp at h
    · rename_i k s n hx
      simp only [List.mem_cons] at h
      rcases h with rfl | h
      · exact ⟨_, hx⟩
      · exact lexF_mem f _ _ t h
theorem lexS_mem {l : List UInt8} {xs : List Tk} {a b : Int} (h : lexS l = (xs, a, b)) {t : Tk} (ht : t ∈ xs) : ∃ p, tokS p = some (t.kind, t.s, t.n) := by
  unfold lexS at h
  split at h
  · injection h with h; subst h; simp at ht
  · split at h
    · injection h with h; subst h; simp at ht
    · injection h with h; subst h; exact lexF_mem _ _ _ t ht
end Go.Proofs.YtdnolbbkphgfiaaDoor
