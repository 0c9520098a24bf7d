/- The reference's Text; the tokens cover the text. -/
import Derived.Test.YtdnolbbkphgfiaaDoorNum
import Derived.Test.YtdnolbbkphgfiaaDoorText
namespace Go.Proofs.YtdnolbbkphgfiaaDoor
open Go.RowKit

theorem tok_text {p s : List UInt8} {k n : Int} (h : tokS p = some (k, s, n)) : textS k s n = p := by
  unfold textS
  rcases tokS_class h with ⟨rfl, _, h⟩ | ⟨rfl, _, h⟩
  · rw [if_pos rfl]; exact (integerS_canon h).1.symm
  · rw [if_neg]
    rintro rfl
    rcases h with ⟨h, _⟩ | ⟨h, _⟩ | ⟨h, _⟩ | ⟨h, _⟩ <;> omega
def txt (t : Tk) : List UInt8 := textS t.kind t.s t.n
/-- the tokens of a text from a byte on, and where the search for the next one ended -/
def Cov (l : List UInt8) : Nat → List Tk → Nat → Prop
  | at', [], fin => fin = at' + spLen false (l.drop at')
  | at', t :: r, fin => t.pos = at' + spLen false (l.drop at') ∧ txt t = partOf (l.drop t.pos) ∧ 0 < (txt t).length ∧ Cov l (t.pos + (txt t).length) r fin
theorem lexF_cov : ∀ (f p : Nat) (l : List UInt8), p ≤ l.length → l.length - p < f → Cov l p (lexF f p (l.drop p)).1 (lexF f p (l.drop p)).2
  | 0, p, l, _, h => by omega
  | f + 1, p, l, hp, h => by
    have hsp := spLen_le false (l.drop p)
    rw [List.length_drop] at hsp
    cases ht : tokS (partOf (l.drop (p + spLen false (l.drop p)))) with
    | none => rw [lexF_none rfl ht]; exact rfl
    | some x =>
      obtain ⟨k, s, n⟩ := x
      have hpos := part_pos ht
      have hle := partOf_le (l.drop (p + spLen false (l.drop p)))
      rw [List.length_drop] at hle
      have htx : txt ⟨k, s, n, p + spLen false (l.drop p)⟩ = partOf (l.drop (p + spLen false (l.drop p))) := tok_text ht
      rw [lexF_some rfl ht]
      refine ⟨rfl, htx, by rw [htx]; exact hpos, ?_⟩
      rw [htx]
      have hl1 : p + spLen false (l.drop p) + (partOf (l.drop (p + spLen false (l.drop p)))).length ≤ l.length := by omega
      have hl2 : l.length - (p + spLen false (l.drop p) + (partOf (l.drop (p + spLen false (l.drop p)))).length) < f := by omega
      exact lexF_cov f _ l hl1 hl2
theorem lexS_cov {l : List UInt8} {xs : List Tk} {a : Int} (h : lexS l = (xs, a, 0)) : ∃ fin, Cov l 0 xs fin ∧ l.length ≤ fin := by
  unfold lexS at h
  split at h
  · injection h with _ h; injection h with h1 h2; cases h2
  · split at h
    · injection h with _ h; injection h with h1 h2; cases h2
    · rename_i h1 h2
      injection h with h3 h4
      have := lexF_cov (l.length + 1) 0 l (by omega) (by omega)
      rw [List.drop_zero] at this
      rw [← h3]
      exact ⟨_, this, by omega⟩
/-- the part of a text begins it -/
theorem pre_of_part (l : List UInt8) : l.take (partOf l).length = partOf l := by
  unfold partOf
  split
  · unfold symAt
    cases h : symList.find? (fun s => s.isPrefixOf l) with
    | none => simp
    | some x =>
      have := List.find?_some h
      rw [List.isPrefixOf_iff_prefix] at this
      exact (List.prefix_iff_eq_take.1 this).symm
  · rw [List.length_take, Nat.min_eq_left (wordLen_le l)]

set_option maxRecDepth 100000 in
set_option maxHeartbeats 1000000 in
theorem rText_any (k n p : Int) (s : ByteArray) (w : World) (hn : -9223372036854775808 ≤ n ∧ n ≤ 9223372036854775807) :
    Calls Tryd.prog 35 #[.agg #[.int .i64 k, .string s, .int .i64 n, .int .i64 p]] w fun e w' => e = .returned (.string (strB (textS k s.data.toList n))) ∧ Below w.heap.size w w' := by
  have HD : Hid (∀ w, Calls Tryd.prog 25 #[.int .i64 n] w fun e w' => e = .returned (.string (strB (Lib.itoa n))) ∧ w = w') := fun w => rDigits_any (n.natAbs + 1) n w (by omega) hn
  by_cases hk : k = 3
  · have HR := Lib.hid (show strB (textS k s.data.toList n) = strB (Lib.itoa n) by unfold textS; rw [if_pos hk])
    have hb : (k == 3) = true := by rw [beq_iff_eq]; exact hk
    clear hk
    go_enter Tryd.func35, Tryd.ntmps35
    go_wp2_with (go_at_call 25; refine (HD.out _).mono ?_; rintro e w' ⟨rfl, rfl⟩)
    go_ret
    exact ⟨by rw [HR.out]; rfl, (Below.refl _ _).alloc (Nat.le_refl _) _⟩
  · have HR := Lib.hid (show strB (textS k s.data.toList n) = s by unfold textS; rw [if_neg hk]; rfl)
    have hb : (k == 3) = false := by rw [beq_eq_false_iff_ne]; exact hk
    clear hk
    go_enter Tryd.func35, Tryd.ntmps35
    go_wp2_with fail
    go_ret
    exact ⟨by rw [HR.out]; rfl, (Below.refl _ _).alloc (Nat.le_refl _) _⟩
end Go.Proofs.YtdnolbbkphgfiaaDoor
