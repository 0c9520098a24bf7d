/- The reference's valid. -/
import Derived.Test.YtdnolbbkphgfiaaDoorRefF
import Derived.Test.YtdnolbbkphgfiaaDoorCov
import Derived.BigQuiet
namespace Go.Proofs.YtdnolbbkphgfiaaDoor
open Go.RowKit

theorem tok_kind0 {l s : List UInt8} {k n : Int} (h : tokS l = some (k, s, n)) : 0 ≤ k := by
  rcases tokS_class h with ⟨rfl, _⟩ | ⟨_, _, h | h | h | h⟩
  · omega
  all_goals (obtain ⟨rfl, _⟩ := h; omega)

set_option maxRecDepth 100000 in
set_option maxHeartbeats 1000000 in
/-- where the bytes' own token is k', s', n' -/
theorem rValid_of (k n p k' n' : Int) (s s' : ByteArray) (t : ByteArray) (b : Bool) (w : World)
    (H35 : Hid (∀ w, Calls Tryd.prog 35 #[.agg #[.int .i64 k, .string s, .int .i64 n, .int .i64 p]] w fun e w' => e = .returned (.string t) ∧ Below w.heap.size w w'))
    (H39 : Hid (∀ w, Calls Tryd.prog 39 #[.string t] w fun e w' => e = rTok k' s' n' ∧ Below w.heap.size w w'))
    (hb : (b = true ∧ 0 ≤ k ∧ k' = k ∧ s' = s ∧ n' = n) ∨ (b = false ∧ (k < 0 ∨ (0 ≤ k ∧ ((k' == k) = false ∨ (k' = k ∧ ((s'.toList == s.toList) = false ∨ (s' = s ∧ (n' == n) = false)))))))) :
    Calls Tryd.prog 43 #[.agg #[.int .i64 k, .string s, .int .i64 n, .int .i64 p]] w fun e w' => e = .returned (.bool b) ∧ Below w.heap.size w w' := by
  have HT0 := Lib.hid (TB.new w k s n p)
  have HB0 := Lib.hid ((Below.refl w.heap.size w).alloc (Nat.le_refl _) (.cells #[.int .i64 k, .string s, .int .i64 n, .int .i64 p] 43))
  rcases hb with ⟨rfl, h0, rfl, rfl, rfl⟩ | ⟨rfl, h0 | ⟨h0, h1 | ⟨rfl, h2 | ⟨rfl, h3⟩⟩⟩⟩
  all_goals
    go_enter Tryd.func43, Tryd.ntmps43
    go_wp2_with fail
    refine (H35.out _).mono ?_; rintro e w1 ⟨rfl, hb⟩
    have HB1 := Lib.hid (below_call HB0.out hb)
    have HT1 := Lib.hid (HT0.out.below hb)
    clear hb
    go_wp2_with fail
    refine (H39.out _).mono ?_; rintro e w2 ⟨rfl, hb⟩
    have HB2 := Lib.hid (below_call HB1.out hb)
    have HT2 := Lib.hid (HT1.out.below hb)
    clear hb HB1 HT1
    simp only [rTok]
    have c0 := HT2.out.c0
    have c1 := HT2.out.c1
    have c2 := HT2.out.c2
    have c3 := HT2.out.c3
    have hl2 := HT2.out.lt
    go_wp2_with fail
    go_ret
    exact ⟨rfl, HB2.out.alloc HB2.out.size _⟩

theorem str_ne {a b : ByteArray} (h : ¬ a.data.toList = b.data.toList) : (a.toList == b.toList) = false := by
  rw [ByteArray.toList_eq, ByteArray.toList_eq, beq_eq_false_iff_ne]; exact h
theorem rValid_any (k n p : Int) (s : ByteArray) (w : World) (hs : s.size ≤ maxLen) (hn : -9223372036854775808 ≤ n ∧ n ≤ 9223372036854775807) :
    Calls Tryd.prog 43 #[.agg #[.int .i64 k, .string s, .int .i64 n, .int .i64 p]] w fun e w' => e = .returned (.bool (validS k s.data.toList n)) ∧ Below w.heap.size w w' := by
  have H35 := Lib.hid (fun w => rText_any k n p s w hn)
  have hts : (strB (textS k s.data.toList n)).size ≤ maxLen := by
    rw [← len_data, data_strB]
    unfold textS
    split
    · have := itoa_len n hn
      unfold maxLen; omega
    · rw [len_data]; exact hs
  have h39 := fun w => rToken_any (strB (textS k s.data.toList n)) w hts
  rw [data_strB] at h39
  cases ht : tokS (textS k s.data.toList n) with
  | none =>
    rw [ht] at h39
    have hv : validS k s.data.toList n = false := by unfold validS; rw [ht]; simp
    rw [hv]
    refine rValid_of k n p (-1) 0 s ⟨#[]⟩ _ false w H35 h39 (.inr ⟨rfl, ?_⟩)
    rcases Int.lt_or_le k 0 with h | h
    · exact .inl h
    · exact .inr ⟨h, .inl (by rw [beq_eq_false_iff_ne]; omega)⟩
  | some x =>
    obtain ⟨k', s', n'⟩ := x
    have hk' := tok_kind0 ht
    rw [ht] at h39
    have hv : validS k s.data.toList n = decide ((k', s', n') = (k, s.data.toList, n)) := by unfold validS; rw [ht]; simp
    rw [hv]
    refine rValid_of k n p k' n' s (strB s') _ _ w H35 h39 ?_
    by_cases e1 : k' = k
    · subst e1
      by_cases e2 : s' = s.data.toList
      · subst e2
        by_cases e3 : n' = n
        · subst e3
          exact .inl ⟨by simp, hk', rfl, rfl, rfl⟩
        · exact .inr ⟨by simp [e3], .inr ⟨hk', .inr ⟨rfl, .inr ⟨rfl, by rw [beq_eq_false_iff_ne]; exact e3⟩⟩⟩⟩
      · exact .inr ⟨by simp [e2], .inr ⟨hk', .inr ⟨rfl, .inl (str_ne (by rw [data_strB]; exact e2))⟩⟩⟩
    · refine .inr ⟨by simp [e1], ?_⟩
      rcases Int.lt_or_le k 0 with h | h
      · exact .inl h
      · exact .inr ⟨h, .inl (by rw [beq_eq_false_iff_ne]; exact e1)⟩
end Go.Proofs.YtdnolbbkphgfiaaDoor
