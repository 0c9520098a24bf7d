/- The reference's Integer. -/
import Derived.Test.YtdnolbbkphgfiaaDoorNum
import Derived.Test.YtdnolbbkphgfiaaDoorRefC
namespace Go.Proofs.YtdnolbbkphgfiaaDoor
open Go.RowKit

def valD (l : List UInt8) : Int := l.foldl (fun n c => 10 * n + ((c.toNat : Int) - 48)) 0
theorem valD_snoc (l : List UInt8) (c : UInt8) : valD (l ++ [c]) = 10 * valD l + ((c.toNat : Int) - 48) := by simp [valD]
theorem valD_bound : ∀ (k : Nat) (l : List UInt8), l.length = k → (∀ c ∈ l, kb c = 3) → 0 ≤ valD l ∧ valD l < 10 ^ k
  | 0, l, h, _ => by rw [List.eq_nil_of_length_eq_zero h]; decide
  | k + 1, l, h, hd => by
    have hne : l ≠ [] := fun e => by rw [e] at h; simp at h
    obtain ⟨p, c, rfl⟩ : ∃ p c, l = p ++ [c] := ⟨l.dropLast, l.getLast hne, (List.dropLast_concat_getLast hne).symm⟩
    have ih := valD_bound k p (by simpa using h) (fun x hx => hd x (by simp [hx]))
    have hc := kindI_3 (hd c (by simp))
    rw [valD_snoc, Int.pow_succ]
    omega
theorem intGo_val : ∀ (l : List UInt8) (m n : Int), intGo m l = some n → l.foldl (fun n c => 10 * n + ((c.toNat : Int) - 48)) m = n ∧ ∀ c ∈ l, kb c = 3
  | [], m, n, h => by simp only [intGo, Option.some.injEq] at h; exact ⟨h, by simp⟩
  | c :: r, m, n, h => by
    simp only [intGo] at h
    split at h
    · rename_i hk
      split at h
      · cases h
      · have := intGo_val r _ n h
        refine ⟨this.1, fun x hx => ?_⟩
        rcases List.mem_cons.1 hx with rfl | hx
        · exact hk
        · exact this.2 x hx
    · cases h
theorem integerS_val {l : List UInt8} {n : Int} (h : integerS l = some n) : valD l = n ∧ ∀ c ∈ l, kb c = 3 := intGo_val l 0 n (integerS_some h).2.1
theorem itoa_len9 : ∀ (j : Nat) (n : Int), 1 ≤ j → 0 ≤ n → n < 10 ^ j → (Lib.itoa n).length ≤ j
  | 0, n, h, _, _ => by omega
  | 1, n, _, h0, h => by rw [itoa_small ⟨h0, by simpa using h⟩]; simp
  | j + 2, n, _, h0, h => by
    by_cases h10 : n < 10
    · rw [itoa_small ⟨h0, h10⟩]; simp
    · rw [itoa_big (by omega), List.length_append, itoa_small (n := n % 10) (by omega)]
      have := itoa_len9 (j + 1) (n / 10) (by omega) (by omega) (by rw [Int.pow_succ] at h; omega)
      simp only [List.length_cons, List.length_nil]; omega

theorem int_bad {l : List UInt8} (k : Nat) (h : k < l.length) (hk : kb l[k] ≠ 3) : integerS l = none := by
  cases e : integerS l with
  | none => rfl
  | some n => exact absurd ((integerS_val e).2 _ (List.getElem_mem h)) hk
theorem int_end {l : List UInt8} {k : Nat} {n : Int} (hk : k ≤ l.length) (he : k = l.length ∨ k = 10) (hn : n = valD (l.take k)) (hx : 999999999 < n ∨ Lib.itoa n ≠ l) : integerS l = none := by
  cases e : integerS l with
  | none => rfl
  | some m =>
    exfalso
    obtain ⟨h1, h2, h3⟩ := integerS_canon e
    have hl : l.length ≤ 9 := by rw [h1]; exact itoa_len9 9 m (by omega) h2 (by omega)
    have : k = l.length := by omega
    rw [this, List.take_length, (integerS_val e).1] at hn
    subst hn
    rcases hx with hx | hx
    · omega
    · exact hx h1.symm
theorem int_good {l : List UInt8} {n : Int} (h0 : 0 ≤ n) (h1 : n ≤ 999999999) (h : Lib.itoa n = l) : integerS l = some n := by rw [← h]; exact integerS_itoa ⟨h0, h1⟩

theorem dig_of (c : UInt8) : digB (c.toNat : Int) = decide (kb c = 3) := by
  unfold digB kb
  rw [Bool.eq_iff_iff]

set_option maxRecDepth 100000 in
set_option maxHeartbeats 2000000 in
theorem rInteger_any (s : ByteArray) (w : World) (hs : s.size ≤ maxLen) :
    Calls Tryd.prog 59 #[.string s] w fun e w' => e = .returned (.int .i64 ((integerS s.data.toList).getD (-1))) ∧ w = w' := by
  unfold maxLen at hs
  have HM : Hid (∀ w, Calls Tryd.prog 25 #[.int .i64 999999999] w fun e w' => e = .returned (.string ⟨#[57, 57, 57, 57, 57, 57, 57, 57, 57]⟩) ∧ w = w') := fun w => by
    have := rDigits_any 1000000000 999999999 w (by omega) (by omega)
    rwa [show strB (Lib.itoa 999999999) = ⟨#[57, 57, 57, 57, 57, 57, 57, 57, 57]⟩ by decide +kernel] at this
  go_enter Tryd.func59, Tryd.ntmps59
  go_wp2_with fail
  go_loop [3, 4] (fun v i => ∃ (k : Nat) (n : Int), k ≤ s.size ∧ k ≤ 10 ∧ i = .int .i64 (k : Int) ∧ v = .int .i64 n ∧ (0 ≤ n ∧ n < 10 ^ k) ∧ Hid (n = valD (s.data.toList.take k) ∧ ∀ c ∈ s.data.toList.take k, kb c = 3)) (fun _ i => s.size - (intOf i).toNat)
  case atStart => exact ⟨0, 0, by omega, by omega, rfl, rfl, by decide, by show _ ∧ _; exact ⟨rfl, by simp⟩⟩
  case round =>
    obtain ⟨k, n, hk, hk10, rfl, rfl, ⟨hn0, hn1⟩, HA⟩ := hrel
    by_cases hlt : k < s.size ∧ k < 10
    · obtain ⟨hkl, hk9⟩ := hlt
      have hpow : n ≤ 999999999 := by
        have : (10 : Int) ^ k ≤ 10 ^ 9 := by
          have h2 : 10 ^ k ≤ 10 ^ 9 := Nat.pow_le_pow_right (by omega) (by omega)
          exact_mod_cast h2
        omega
      clear hn1
      by_cases hz : kb (s[k]'hkl) = 3
      · have HD : Hid (∀ w, Calls Tryd.prog 72 #[.int .u8 ((s[k]'hkl).toNat : Int)] w fun e w' => e = .returned (.bool true) ∧ w = w') := fun w => L72 (by rw [dig_of]; simpa using hz) w
        obtain ⟨y1, y2⟩ := kindI_3 hz
        have HA2 : Hid (10 * n + (((s[k]'hkl).toNat : Int) - 48) = valD (s.data.toList.take (k + 1)) ∧ ∀ c ∈ s.data.toList.take (k + 1), kb c = 3) := by
          have hkl' : k < s.data.toList.length := by rw [len_data]; exact hkl
          show _ ∧ _
          rw [List.take_succ_eq_append_getElem hkl', valD_snoc, ← HA.out.1]
          refine ⟨rfl, fun c hc => ?_⟩
          rcases List.mem_append.1 hc with hc | hc
          · exact HA.out.2 c hc
          · simp only [List.mem_cons, List.not_mem_nil, or_false] at hc; subst hc; exact hz
        have HB := Lib.hid (valD_bound (k + 1) _ (by rw [List.length_take, len_data]; omega) HA2.out.2)
        rw [← HA2.out.1] at HB
        clear HA hz
        go_wp2_with (first | (go_at_call 25; refine (HM.out _).mono ?_; rintro e w' ⟨rfl, rfl⟩) | (go_at_call 72; refine (HD.out _).mono ?_; rintro e w' ⟨rfl, rfl⟩))
        go_round
        case rel => exact ⟨k + 1, 10 * n + (((s[k]'hkl).toNat : Int) - 48), by omega, by omega, by go_num, by go_num, HB.out, HA2⟩
        case measure => simp [intOf]; omega
      · have HD : Hid (∀ w, Calls Tryd.prog 72 #[.int .u8 ((s[k]'hkl).toNat : Int)] w fun e w' => e = .returned (.bool false) ∧ w = w') := fun w => L72 (by rw [dig_of]; simpa using hz) w
        have HR := Lib.hid (int_bad (l := s.data.toList) k (by rw [len_data]; exact hkl) hz)
        clear HA hz
        go_wp2_with (first | (go_at_call 25; refine (HM.out _).mono ?_; rintro e w' ⟨rfl, rfl⟩) | (go_at_call 72; refine (HD.out _).mono ?_; rintro e w' ⟨rfl, rfl⟩))
        go_ret
        exact ⟨by rw [HR.out]; rfl, rfl⟩
    · have hpow : n ≤ 9999999999 := by
        have : (10 : Int) ^ k ≤ 10 ^ 10 := by
          have h2 : 10 ^ k ≤ 10 ^ 10 := Nat.pow_le_pow_right (by omega) (by omega)
          exact_mod_cast h2
        omega
      clear hn1
      have HC := Lib.hid (show k = s.data.toList.length ∨ k = 10 by rw [len_data]; omega)
      have hkc : k = s.size ∨ (k = 10 ∧ k < s.size) := by omega
      have HL := Lib.hid (show k ≤ s.data.toList.length by rw [len_data]; omega)
      by_cases hbig : 999999999 < n
      · have HR := Lib.hid (int_end HL.out HC.out HA.out.1 (.inl hbig))
        clear HA HC hlt
        rcases hkc with hkc | ⟨hkc, hkc2⟩
        all_goals
          subst hkc
          go_wp2_with (first | (go_at_call 25; refine (HM.out _).mono ?_; rintro e w' ⟨rfl, rfl⟩))
          go_ret
          exact ⟨by rw [HR.out]; rfl, rfl⟩
      · have HN : Hid (∀ w, Calls Tryd.prog 25 #[.int .i64 n] w fun e w' => e = .returned (.string (strB (Lib.itoa n))) ∧ w = w') := fun w => rDigits_any 10000000000 n w (by omega) (by omega)
        by_cases he : Lib.itoa n = s.data.toList
        · have HR := Lib.hid (int_good hn0 (by omega) he)
          have hb : ((strB (Lib.itoa n)).toList == s.toList) = true := by rw [ByteArray.toList_eq, ByteArray.toList_eq, data_strB, he]; simp
          obtain ⟨tx, htx⟩ : ∃ tx, tx = strB (Lib.itoa n) := ⟨_, rfl⟩
          rw [← htx] at HN hb
          clear HA HC hlt he htx
          rcases hkc with hkc | ⟨hkc, hkc2⟩
          · subst hkc
            go_wp2_with fail
            refine (HN.out _).mono ?_; rintro e w' ⟨rfl, rfl⟩
            go_wp2_with fail
            go_ret
            exact ⟨by rw [HR.out]; rfl, rfl⟩
          · subst hkc
            go_wp2_with fail
            refine (HM.out _).mono ?_; rintro e w' ⟨rfl, rfl⟩
            go_wp2_with fail
            refine (HN.out _).mono ?_; rintro e w' ⟨rfl, rfl⟩
            go_wp2_with fail
            go_ret
            exact ⟨by rw [HR.out]; rfl, rfl⟩
        · have HR := Lib.hid (int_end HL.out HC.out HA.out.1 (.inr he))
          have hb : ((strB (Lib.itoa n)).toList == s.toList) = false := by rw [ByteArray.toList_eq, ByteArray.toList_eq, data_strB]; simpa using he
          obtain ⟨tx, htx⟩ : ∃ tx, tx = strB (Lib.itoa n) := ⟨_, rfl⟩
          rw [← htx] at HN hb
          clear HA HC hlt he htx
          rcases hkc with hkc | ⟨hkc, hkc2⟩
          · subst hkc
            go_wp2_with fail
            refine (HN.out _).mono ?_; rintro e w' ⟨rfl, rfl⟩
            go_wp2_with fail
            go_ret
            exact ⟨by rw [HR.out]; rfl, rfl⟩
          · subst hkc
            go_wp2_with fail
            refine (HM.out _).mono ?_; rintro e w' ⟨rfl, rfl⟩
            go_wp2_with fail
            refine (HN.out _).mono ?_; rintro e w' ⟨rfl, rfl⟩
            go_wp2_with fail
            go_ret
            exact ⟨by rw [HR.out]; rfl, rfl⟩
end Go.Proofs.YtdnolbbkphgfiaaDoor
