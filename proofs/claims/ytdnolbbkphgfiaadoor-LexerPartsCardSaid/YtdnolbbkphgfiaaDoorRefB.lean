/- The reference's word, IsVar, IsUpper. -/
import Derived.Test.YtdnolbbkphgfiaaDoorRefA
namespace Go.Proofs.YtdnolbbkphgfiaaDoor
open Go.RowKit

/-- where a byte of no word lies -/
theorem kind0 {c : Int} (h : kindI c = 0) : c < 48 ∨ (57 < c ∧ c < 65) ∨ (90 < c ∧ c < 95) ∨ c = 96 ∨ 122 < c := by
  unfold kindI at h
  repeat' split at h
  all_goals omega
theorem kindn {c : Int} (h : kindI c ≠ 0) : (97 ≤ c ∧ c ≤ 122) ∨ (65 ≤ c ∧ c ≤ 90) ∨ (48 ≤ c ∧ c ≤ 57) ∨ c = 95 := by
  unfold kindI at h
  repeat' split at h
  all_goals omega
theorem kind1 {c : Int} : kindI c = 1 ↔ (97 ≤ c ∧ c ≤ 122) ∨ c = 95 := by
  unfold kindI
  repeat' split
  all_goals omega
theorem kind2 {c : Int} : kindI c = 2 ↔ 65 ≤ c ∧ c ≤ 90 := by
  unfold kindI
  repeat' split
  all_goals omega

set_option maxRecDepth 100000 in
set_option maxHeartbeats 4000000 in
theorem word_lower (s : ByteArray) (w : World) (hs : s.size ≤ maxLen) :
    Calls Tryd.prog 48 #[.string s, .int .u8 97, .int .u8 122, .bool true] w fun e w' => e = .returned (.bool (isNm 1 s.data.toList)) ∧ w = w' := by
  unfold maxLen at hs
  by_cases h0 : 1 ≤ s.size ∧ s.size ≤ 12
  · have HI : Hid (∀ w, Calls Tryd.prog 34 #[.int .i64 (s.size : Int), .int .i64 1, .int .i64 12] w fun e w' => e = .returned (.bool true) ∧ w = w') := fun w => (In_any _ _ _ w).mono fun e w' h => ⟨by rw [h.1]; apply ret_bool; simp; omega, h.2⟩
    have hp : 0 < s.size := by omega
    obtain ⟨h1, h2⟩ := h0
    by_cases hk : kindI ((s[0]'hp).toNat : Int) = 1
    · have HK := Lib.hid hk
      have hk' := kind1.1 hk
      clear hk
      rcases hk' with ⟨z1, z2⟩ | z
      · go_enter Tryd.func48, Tryd.ntmps48
        go_wp2_with (go_at_call 34; refine (HI.out _).mono ?_; rintro e w' ⟨rfl, rfl⟩)
        go_loop [9] (fun i => ∃ k : Nat, k ≤ s.size ∧ i = .int .i64 (k : Int) ∧ Hid (∀ (j : Nat) (h : j < s.size), j < k → kb s[j] ≠ 0)) (fun i => s.size - (intOf i).toNat)
        case atStart => exact ⟨0, by omega, rfl, fun j h h2 => by omega⟩
        case round =>
          obtain ⟨k, hk, rfl, HA⟩ := hrel
          by_cases hkl : k < s.size
          · by_cases hz : kindI ((s[k]'hkl).toNat : Int) = 0
            · have HR := Lib.hid (show isNm 1 s.data.toList = false from isNm_bad k (by rw [len_data]; exact hkl) hz)
              have hz' := kind0 hz
              have b95 : (((s[k]'hkl).toNat : Int) == 95) = false := by
                rw [beq_eq_false_iff_ne]; omega
              clear hz HA
              rcases hz' with y1 | ⟨y1, y2⟩ | ⟨y1, y2⟩ | y1 | y1
              all_goals first | (have y3 : ((s[k]'hkl).toNat : Int) ≤ 96 := (by omega); have y4 : 96 ≤ ((s[k]'hkl).toNat : Int) := (by omega); clear y1) | skip
              all_goals
                first | (have e97 : decide (97 ≤ ((s[k]'hkl).toNat : Int)) = true := decide_eq_true (by omega)) | (have e97 : decide (97 ≤ ((s[k]'hkl).toNat : Int)) = false := decide_eq_false (by omega))
                first | (have e122 : decide (((s[k]'hkl).toNat : Int) ≤ 122) = true := decide_eq_true (by omega)) | (have e122 : decide (((s[k]'hkl).toNat : Int) ≤ 122) = false := decide_eq_false (by omega))
                first | (have e65 : decide (65 ≤ ((s[k]'hkl).toNat : Int)) = true := decide_eq_true (by omega)) | (have e65 : decide (65 ≤ ((s[k]'hkl).toNat : Int)) = false := decide_eq_false (by omega))
                first | (have e90 : decide (((s[k]'hkl).toNat : Int) ≤ 90) = true := decide_eq_true (by omega)) | (have e90 : decide (((s[k]'hkl).toNat : Int) ≤ 90) = false := decide_eq_false (by omega))
                first | (have e48 : decide (48 ≤ ((s[k]'hkl).toNat : Int)) = true := decide_eq_true (by omega)) | (have e48 : decide (48 ≤ ((s[k]'hkl).toNat : Int)) = false := decide_eq_false (by omega))
                first | (have e57 : decide (((s[k]'hkl).toNat : Int) ≤ 57) = true := decide_eq_true (by omega)) | (have e57 : decide (((s[k]'hkl).toNat : Int) ≤ 57) = false := decide_eq_false (by omega))
                go_wp2_with fail
                go_ret
                exact ⟨ret_bool HR.out.symm, rfl⟩
            · have HA2 : Hid (∀ (j : Nat) (h : j < s.size), j < k + 1 → kb s[j] ≠ 0) := fun j h hj => by
                by_cases e : j = k
                · subst e; exact hz
                · exact HA.out j h (by omega)
              have hz' := kindn hz
              clear hz HA
              rcases hz' with ⟨y1, y2⟩ | ⟨y1, y2⟩ | ⟨y1, y2⟩ | y1
              · have b95 : (((s[k]'hkl).toNat : Int) == 95) = false := by rw [beq_eq_false_iff_ne]; omega
                go_wp2_with fail
                go_round
                case rel => exact ⟨k + 1, by omega, by go_num, HA2⟩
                case measure => simp [intOf]; omega
              · have b95 : (((s[k]'hkl).toNat : Int) == 95) = false := by rw [beq_eq_false_iff_ne]; omega
                go_wp2_with fail
                go_round
                case rel => exact ⟨k + 1, by omega, by go_num, HA2⟩
                case measure => simp [intOf]; omega
              · have b95 : (((s[k]'hkl).toNat : Int) == 95) = false := by rw [beq_eq_false_iff_ne]; omega
                go_wp2_with fail
                go_round
                case rel => exact ⟨k + 1, by omega, by go_num, HA2⟩
                case measure => simp [intOf]; omega
              · have b95 : (((s[k]'hkl).toNat : Int) == 95) = true := by rw [beq_iff_eq]; exact y1
                have y2 : ((s[k]'hkl).toNat : Int) ≤ 95 := by omega
                have y3 : 95 ≤ ((s[k]'hkl).toNat : Int) := by omega
                clear y1
                first | (have e97 : decide (97 ≤ ((s[k]'hkl).toNat : Int)) = true := decide_eq_true (by omega)) | (have e97 : decide (97 ≤ ((s[k]'hkl).toNat : Int)) = false := decide_eq_false (by omega))
                first | (have e122 : decide (((s[k]'hkl).toNat : Int) ≤ 122) = true := decide_eq_true (by omega)) | (have e122 : decide (((s[k]'hkl).toNat : Int) ≤ 122) = false := decide_eq_false (by omega))
                first | (have e65 : decide (65 ≤ ((s[k]'hkl).toNat : Int)) = true := decide_eq_true (by omega)) | (have e65 : decide (65 ≤ ((s[k]'hkl).toNat : Int)) = false := decide_eq_false (by omega))
                first | (have e90 : decide (((s[k]'hkl).toNat : Int) ≤ 90) = true := decide_eq_true (by omega)) | (have e90 : decide (((s[k]'hkl).toNat : Int) ≤ 90) = false := decide_eq_false (by omega))
                first | (have e48 : decide (48 ≤ ((s[k]'hkl).toNat : Int)) = true := decide_eq_true (by omega)) | (have e48 : decide (48 ≤ ((s[k]'hkl).toNat : Int)) = false := decide_eq_false (by omega))
                first | (have e57 : decide (((s[k]'hkl).toNat : Int) ≤ 57) = true := decide_eq_true (by omega)) | (have e57 : decide (((s[k]'hkl).toNat : Int) ≤ 57) = false := decide_eq_false (by omega))
                go_wp2_with fail
                go_round
                case rel => exact ⟨k + 1, by omega, by go_num, HA2⟩
                case measure => simp [intOf]; omega
          · obtain rfl : k = s.size := by omega
            have HR := Lib.hid (show isNm 1 s.data.toList = true from isNm_true (by rw [len_data]; omega) (by rw [len_data]; omega) HK.out (fun j h => HA.out j (by rw [← len_data]; exact h) (by rw [← len_data]; exact h)))
            clear HA HK
            go_wp2_with fail
            go_ret
            exact ⟨ret_bool HR.out.symm, rfl⟩
      · have z95 : (((s[0]'hp).toNat : Int) == 95) = true := by rw [beq_iff_eq]; exact z
        have z1 : ((s[0]'hp).toNat : Int) ≤ 95 := by omega
        clear z
        go_enter Tryd.func48, Tryd.ntmps48
        go_wp2_with (go_at_call 34; refine (HI.out _).mono ?_; rintro e w' ⟨rfl, rfl⟩)
        go_loop [9] (fun i => ∃ k : Nat, k ≤ s.size ∧ i = .int .i64 (k : Int) ∧ Hid (∀ (j : Nat) (h : j < s.size), j < k → kb s[j] ≠ 0)) (fun i => s.size - (intOf i).toNat)
        case atStart => exact ⟨0, by omega, rfl, fun j h h2 => by omega⟩
        case round =>
          obtain ⟨k, hk, rfl, HA⟩ := hrel
          by_cases hkl : k < s.size
          · by_cases hz : kindI ((s[k]'hkl).toNat : Int) = 0
            · have HR := Lib.hid (show isNm 1 s.data.toList = false from isNm_bad k (by rw [len_data]; exact hkl) hz)
              have hz' := kind0 hz
              have b95 : (((s[k]'hkl).toNat : Int) == 95) = false := by
                rw [beq_eq_false_iff_ne]; omega
              clear hz HA
              rcases hz' with y1 | ⟨y1, y2⟩ | ⟨y1, y2⟩ | y1 | y1
              all_goals first | (have y3 : ((s[k]'hkl).toNat : Int) ≤ 96 := (by omega); have y4 : 96 ≤ ((s[k]'hkl).toNat : Int) := (by omega); clear y1) | skip
              all_goals
                first | (have e97 : decide (97 ≤ ((s[k]'hkl).toNat : Int)) = true := decide_eq_true (by omega)) | (have e97 : decide (97 ≤ ((s[k]'hkl).toNat : Int)) = false := decide_eq_false (by omega))
                first | (have e122 : decide (((s[k]'hkl).toNat : Int) ≤ 122) = true := decide_eq_true (by omega)) | (have e122 : decide (((s[k]'hkl).toNat : Int) ≤ 122) = false := decide_eq_false (by omega))
                first | (have e65 : decide (65 ≤ ((s[k]'hkl).toNat : Int)) = true := decide_eq_true (by omega)) | (have e65 : decide (65 ≤ ((s[k]'hkl).toNat : Int)) = false := decide_eq_false (by omega))
                first | (have e90 : decide (((s[k]'hkl).toNat : Int) ≤ 90) = true := decide_eq_true (by omega)) | (have e90 : decide (((s[k]'hkl).toNat : Int) ≤ 90) = false := decide_eq_false (by omega))
                first | (have e48 : decide (48 ≤ ((s[k]'hkl).toNat : Int)) = true := decide_eq_true (by omega)) | (have e48 : decide (48 ≤ ((s[k]'hkl).toNat : Int)) = false := decide_eq_false (by omega))
                first | (have e57 : decide (((s[k]'hkl).toNat : Int) ≤ 57) = true := decide_eq_true (by omega)) | (have e57 : decide (((s[k]'hkl).toNat : Int) ≤ 57) = false := decide_eq_false (by omega))
                go_wp2_with fail
                go_ret
                exact ⟨ret_bool HR.out.symm, rfl⟩
            · have HA2 : Hid (∀ (j : Nat) (h : j < s.size), j < k + 1 → kb s[j] ≠ 0) := fun j h hj => by
                by_cases e : j = k
                · subst e; exact hz
                · exact HA.out j h (by omega)
              have hz' := kindn hz
              clear hz HA
              rcases hz' with ⟨y1, y2⟩ | ⟨y1, y2⟩ | ⟨y1, y2⟩ | y1
              · have b95 : (((s[k]'hkl).toNat : Int) == 95) = false := by rw [beq_eq_false_iff_ne]; omega
                go_wp2_with fail
                go_round
                case rel => exact ⟨k + 1, by omega, by go_num, HA2⟩
                case measure => simp [intOf]; omega
              · have b95 : (((s[k]'hkl).toNat : Int) == 95) = false := by rw [beq_eq_false_iff_ne]; omega
                go_wp2_with fail
                go_round
                case rel => exact ⟨k + 1, by omega, by go_num, HA2⟩
                case measure => simp [intOf]; omega
              · have b95 : (((s[k]'hkl).toNat : Int) == 95) = false := by rw [beq_eq_false_iff_ne]; omega
                go_wp2_with fail
                go_round
                case rel => exact ⟨k + 1, by omega, by go_num, HA2⟩
                case measure => simp [intOf]; omega
              · have b95 : (((s[k]'hkl).toNat : Int) == 95) = true := by rw [beq_iff_eq]; exact y1
                have y2 : ((s[k]'hkl).toNat : Int) ≤ 95 := by omega
                have y3 : 95 ≤ ((s[k]'hkl).toNat : Int) := by omega
                clear y1
                first | (have e97 : decide (97 ≤ ((s[k]'hkl).toNat : Int)) = true := decide_eq_true (by omega)) | (have e97 : decide (97 ≤ ((s[k]'hkl).toNat : Int)) = false := decide_eq_false (by omega))
                first | (have e122 : decide (((s[k]'hkl).toNat : Int) ≤ 122) = true := decide_eq_true (by omega)) | (have e122 : decide (((s[k]'hkl).toNat : Int) ≤ 122) = false := decide_eq_false (by omega))
                first | (have e65 : decide (65 ≤ ((s[k]'hkl).toNat : Int)) = true := decide_eq_true (by omega)) | (have e65 : decide (65 ≤ ((s[k]'hkl).toNat : Int)) = false := decide_eq_false (by omega))
                first | (have e90 : decide (((s[k]'hkl).toNat : Int) ≤ 90) = true := decide_eq_true (by omega)) | (have e90 : decide (((s[k]'hkl).toNat : Int) ≤ 90) = false := decide_eq_false (by omega))
                first | (have e48 : decide (48 ≤ ((s[k]'hkl).toNat : Int)) = true := decide_eq_true (by omega)) | (have e48 : decide (48 ≤ ((s[k]'hkl).toNat : Int)) = false := decide_eq_false (by omega))
                first | (have e57 : decide (((s[k]'hkl).toNat : Int) ≤ 57) = true := decide_eq_true (by omega)) | (have e57 : decide (((s[k]'hkl).toNat : Int) ≤ 57) = false := decide_eq_false (by omega))
                go_wp2_with fail
                go_round
                case rel => exact ⟨k + 1, by omega, by go_num, HA2⟩
                case measure => simp [intOf]; omega
          · obtain rfl : k = s.size := by omega
            have HR := Lib.hid (show isNm 1 s.data.toList = true from isNm_true (by rw [len_data]; omega) (by rw [len_data]; omega) HK.out (fun j h => HA.out j (by rw [← len_data]; exact h) (by rw [← len_data]; exact h)))
            clear HA HK
            go_wp2_with fail
            go_ret
            exact ⟨ret_bool HR.out.symm, rfl⟩
    · have HR := Lib.hid (show isNm 1 s.data.toList = false from isNm_first (by rw [len_data]; exact hp) hk)
      have hk' : ¬ ((97 ≤ ((s[0]'hp).toNat : Int) ∧ ((s[0]'hp).toNat : Int) ≤ 122) ∨ ((s[0]'hp).toNat : Int) = 95) := fun h => hk (kind1.2 h)
      have z95 : (((s[0]'hp).toNat : Int) == 95) = false := by rw [beq_eq_false_iff_ne]; intro h; exact hk' (.inr h)
      have z : ((s[0]'hp).toNat : Int) < 97 ∨ 122 < ((s[0]'hp).toNat : Int) := by omega
      clear hk hk'
      rcases z with z | z
      all_goals
        first | (have e97 : decide (97 ≤ ((s[0]'hp).toNat : Int)) = true := decide_eq_true (by omega)) | (have e97 : decide (97 ≤ ((s[0]'hp).toNat : Int)) = false := decide_eq_false (by omega))
        first | (have e122 : decide (((s[0]'hp).toNat : Int) ≤ 122) = true := decide_eq_true (by omega)) | (have e122 : decide (((s[0]'hp).toNat : Int) ≤ 122) = false := decide_eq_false (by omega))
        go_enter Tryd.func48, Tryd.ntmps48
        go_wp2_with (go_at_call 34; refine (HI.out _).mono ?_; rintro e w' ⟨rfl, rfl⟩)
        go_ret
        exact ⟨ret_bool HR.out.symm, rfl⟩
  · have HI : Hid (∀ w, Calls Tryd.prog 34 #[.int .i64 (s.size : Int), .int .i64 1, .int .i64 12] w fun e w' => e = .returned (.bool false) ∧ w = w') := fun w => (In_any _ _ _ w).mono fun e w' h => ⟨by rw [h.1]; apply ret_bool; simp; omega, h.2⟩
    have HR := Lib.hid (show isNm 1 s.data.toList = false by
      rcases Nat.lt_or_ge 12 s.size with h | h
      · exact isNm_long (by rw [len_data]; exact h)
      · have : s.data.toList = [] := List.eq_nil_of_length_eq_zero (by rw [len_data]; omega)
        rw [this]; rfl)
    clear h0
    go_enter Tryd.func48, Tryd.ntmps48
    go_wp2_with (go_at_call 34; refine (HI.out _).mono ?_; rintro e w' ⟨rfl, rfl⟩)
    go_ret
    exact ⟨ret_bool HR.out.symm, rfl⟩

set_option maxRecDepth 100000 in
set_option maxHeartbeats 4000000 in
theorem word_upper (s : ByteArray) (w : World) (hs : s.size ≤ maxLen) :
    Calls Tryd.prog 48 #[.string s, .int .u8 65, .int .u8 90, .bool false] w fun e w' => e = .returned (.bool (isNm 2 s.data.toList)) ∧ w = w' := by
  unfold maxLen at hs
  by_cases h0 : 1 ≤ s.size ∧ s.size ≤ 12
  · have HI : Hid (∀ w, Calls Tryd.prog 34 #[.int .i64 (s.size : Int), .int .i64 1, .int .i64 12] w fun e w' => e = .returned (.bool true) ∧ w = w') := fun w => (In_any _ _ _ w).mono fun e w' h => ⟨by rw [h.1]; apply ret_bool; simp; omega, h.2⟩
    have hp : 0 < s.size := by omega
    obtain ⟨h1, h2⟩ := h0
    by_cases hk : kindI ((s[0]'hp).toNat : Int) = 2
    · have HK := Lib.hid hk
      have hk' := kind2.1 hk
      clear hk
      obtain ⟨z1, z2⟩ := hk'
      go_enter Tryd.func48, Tryd.ntmps48
      go_wp2_with (go_at_call 34; refine (HI.out _).mono ?_; rintro e w' ⟨rfl, rfl⟩)
      go_loop [9] (fun i => ∃ k : Nat, k ≤ s.size ∧ i = .int .i64 (k : Int) ∧ Hid (∀ (j : Nat) (h : j < s.size), j < k → kb s[j] ≠ 0)) (fun i => s.size - (intOf i).toNat)
      case atStart => exact ⟨0, by omega, rfl, fun j h h2 => by omega⟩
      case round =>
        obtain ⟨k, hk, rfl, HA⟩ := hrel
        by_cases hkl : k < s.size
        · by_cases hz : kindI ((s[k]'hkl).toNat : Int) = 0
          · have HR := Lib.hid (show isNm 2 s.data.toList = false from isNm_bad k (by rw [len_data]; exact hkl) hz)
            have hz' := kind0 hz
            have b95 : (((s[k]'hkl).toNat : Int) == 95) = false := by
              rw [beq_eq_false_iff_ne]; omega
            clear hz HA
            rcases hz' with y1 | ⟨y1, y2⟩ | ⟨y1, y2⟩ | y1 | y1
            all_goals first | (have y3 : ((s[k]'hkl).toNat : Int) ≤ 96 := (by omega); have y4 : 96 ≤ ((s[k]'hkl).toNat : Int) := (by omega); clear y1) | skip
            all_goals
              first | (have e97 : decide (97 ≤ ((s[k]'hkl).toNat : Int)) = true := decide_eq_true (by omega)) | (have e97 : decide (97 ≤ ((s[k]'hkl).toNat : Int)) = false := decide_eq_false (by omega))
              first | (have e122 : decide (((s[k]'hkl).toNat : Int) ≤ 122) = true := decide_eq_true (by omega)) | (have e122 : decide (((s[k]'hkl).toNat : Int) ≤ 122) = false := decide_eq_false (by omega))
              first | (have e65 : decide (65 ≤ ((s[k]'hkl).toNat : Int)) = true := decide_eq_true (by omega)) | (have e65 : decide (65 ≤ ((s[k]'hkl).toNat : Int)) = false := decide_eq_false (by omega))
              first | (have e90 : decide (((s[k]'hkl).toNat : Int) ≤ 90) = true := decide_eq_true (by omega)) | (have e90 : decide (((s[k]'hkl).toNat : Int) ≤ 90) = false := decide_eq_false (by omega))
              first | (have e48 : decide (48 ≤ ((s[k]'hkl).toNat : Int)) = true := decide_eq_true (by omega)) | (have e48 : decide (48 ≤ ((s[k]'hkl).toNat : Int)) = false := decide_eq_false (by omega))
              first | (have e57 : decide (((s[k]'hkl).toNat : Int) ≤ 57) = true := decide_eq_true (by omega)) | (have e57 : decide (((s[k]'hkl).toNat : Int) ≤ 57) = false := decide_eq_false (by omega))
              go_wp2_with fail
              go_ret
              exact ⟨ret_bool HR.out.symm, rfl⟩
          · have HA2 : Hid (∀ (j : Nat) (h : j < s.size), j < k + 1 → kb s[j] ≠ 0) := fun j h hj => by
              by_cases e : j = k
              · subst e; exact hz
              · exact HA.out j h (by omega)
            have hz' := kindn hz
            clear hz HA
            rcases hz' with ⟨y1, y2⟩ | ⟨y1, y2⟩ | ⟨y1, y2⟩ | y1
            · have b95 : (((s[k]'hkl).toNat : Int) == 95) = false := by rw [beq_eq_false_iff_ne]; omega
              go_wp2_with fail
              go_round
              case rel => exact ⟨k + 1, by omega, by go_num, HA2⟩
              case measure => simp [intOf]; omega
            · have b95 : (((s[k]'hkl).toNat : Int) == 95) = false := by rw [beq_eq_false_iff_ne]; omega
              go_wp2_with fail
              go_round
              case rel => exact ⟨k + 1, by omega, by go_num, HA2⟩
              case measure => simp [intOf]; omega
            · have b95 : (((s[k]'hkl).toNat : Int) == 95) = false := by rw [beq_eq_false_iff_ne]; omega
              go_wp2_with fail
              go_round
              case rel => exact ⟨k + 1, by omega, by go_num, HA2⟩
              case measure => simp [intOf]; omega
            · have b95 : (((s[k]'hkl).toNat : Int) == 95) = true := by rw [beq_iff_eq]; exact y1
              have y2 : ((s[k]'hkl).toNat : Int) ≤ 95 := by omega
              have y3 : 95 ≤ ((s[k]'hkl).toNat : Int) := by omega
              clear y1
              first | (have e97 : decide (97 ≤ ((s[k]'hkl).toNat : Int)) = true := decide_eq_true (by omega)) | (have e97 : decide (97 ≤ ((s[k]'hkl).toNat : Int)) = false := decide_eq_false (by omega))
              first | (have e122 : decide (((s[k]'hkl).toNat : Int) ≤ 122) = true := decide_eq_true (by omega)) | (have e122 : decide (((s[k]'hkl).toNat : Int) ≤ 122) = false := decide_eq_false (by omega))
              first | (have e65 : decide (65 ≤ ((s[k]'hkl).toNat : Int)) = true := decide_eq_true (by omega)) | (have e65 : decide (65 ≤ ((s[k]'hkl).toNat : Int)) = false := decide_eq_false (by omega))
              first | (have e90 : decide (((s[k]'hkl).toNat : Int) ≤ 90) = true := decide_eq_true (by omega)) | (have e90 : decide (((s[k]'hkl).toNat : Int) ≤ 90) = false := decide_eq_false (by omega))
              first | (have e48 : decide (48 ≤ ((s[k]'hkl).toNat : Int)) = true := decide_eq_true (by omega)) | (have e48 : decide (48 ≤ ((s[k]'hkl).toNat : Int)) = false := decide_eq_false (by omega))
              first | (have e57 : decide (((s[k]'hkl).toNat : Int) ≤ 57) = true := decide_eq_true (by omega)) | (have e57 : decide (((s[k]'hkl).toNat : Int) ≤ 57) = false := decide_eq_false (by omega))
              go_wp2_with fail
              go_round
              case rel => exact ⟨k + 1, by omega, by go_num, HA2⟩
              case measure => simp [intOf]; omega
        · obtain rfl : k = s.size := by omega
          have HR := Lib.hid (show isNm 2 s.data.toList = true from isNm_true (by rw [len_data]; omega) (by rw [len_data]; omega) HK.out (fun j h => HA.out j (by rw [← len_data]; exact h) (by rw [← len_data]; exact h)))
          clear HA HK
          go_wp2_with fail
          go_ret
          exact ⟨ret_bool HR.out.symm, rfl⟩
    · have HR := Lib.hid (show isNm 2 s.data.toList = false from isNm_first (by rw [len_data]; exact hp) hk)
      have z : ((s[0]'hp).toNat : Int) < 65 ∨ 90 < ((s[0]'hp).toNat : Int) := by
        have hk' : ¬ (65 ≤ ((s[0]'hp).toNat : Int) ∧ ((s[0]'hp).toNat : Int) ≤ 90) := fun h => hk (kind2.2 h)
        omega
      clear hk
      rcases z with z | z
      all_goals
        first | (have e65 : decide (65 ≤ ((s[0]'hp).toNat : Int)) = true := decide_eq_true (by omega)) | (have e65 : decide (65 ≤ ((s[0]'hp).toNat : Int)) = false := decide_eq_false (by omega))
        first | (have e90 : decide (((s[0]'hp).toNat : Int) ≤ 90) = true := decide_eq_true (by omega)) | (have e90 : decide (((s[0]'hp).toNat : Int) ≤ 90) = false := decide_eq_false (by omega))
        go_enter Tryd.func48, Tryd.ntmps48
        go_wp2_with (go_at_call 34; refine (HI.out _).mono ?_; rintro e w' ⟨rfl, rfl⟩)
        go_ret
        exact ⟨ret_bool HR.out.symm, rfl⟩
  · have HI : Hid (∀ w, Calls Tryd.prog 34 #[.int .i64 (s.size : Int), .int .i64 1, .int .i64 12] w fun e w' => e = .returned (.bool false) ∧ w = w') := fun w => (In_any _ _ _ w).mono fun e w' h => ⟨by rw [h.1]; apply ret_bool; simp; omega, h.2⟩
    have HR := Lib.hid (show isNm 2 s.data.toList = false by
      rcases Nat.lt_or_ge 12 s.size with h | h
      · exact isNm_long (by rw [len_data]; exact h)
      · have : s.data.toList = [] := List.eq_nil_of_length_eq_zero (by rw [len_data]; omega)
        rw [this]; rfl)
    clear h0
    go_enter Tryd.func48, Tryd.ntmps48
    go_wp2_with (go_at_call 34; refine (HI.out _).mono ?_; rintro e w' ⟨rfl, rfl⟩)
    go_ret
    exact ⟨ret_bool HR.out.symm, rfl⟩

set_option maxHeartbeats 400000 in
theorem rIsUpper_any (s : ByteArray) (w : World) (hs : s.size ≤ maxLen) : Calls Tryd.prog 29 #[.string s] w fun e w' => e = .returned (.bool (isNm 2 s.data.toList)) ∧ w = w' := by
  have H := Lib.hid (fun w => word_upper s w hs)
  go_enter Tryd.func29, Tryd.ntmps29
  go_wp2_with (go_at_call 48; refine (H.out _).mono ?_; rintro e w' ⟨rfl, rfl⟩)
  go_ret
  exact ⟨rfl, rfl⟩

/-- whether a string is a keyword, by the reference's list -/
theorem HasKw (A : Option Addr) (c : Nat) (s : ByteArray) (w : World) (hL : StrsAt w A kwList) : Calls Tryd.prog 31 #[.slice A 25 c, .string s] w fun e w' => e = .returned (.bool (isKw s.data.toList)) ∧ w = w' :=
  Has_any A c kwList s w hL (by decide)
theorem HasSym (A : Option Addr) (c : Nat) (s : ByteArray) (w : World) (hL : StrsAt w A symList2) : Calls Tryd.prog 31 #[.slice A 20 c, .string s] w fun e w' => e = .returned (.bool (isSym s.data.toList)) ∧ w = w' := by
  rw [← sym2]
  exact Has_any A c symList2 s w hL (by decide)

set_option maxHeartbeats 400000 in
theorem rIsVar_any (s : ByteArray) (w : World) (hs : s.size ≤ maxLen) : Calls Tryd.prog 27 #[.string s] w fun e w' => e = .returned (.bool (isV s.data.toList)) ∧ Below w.heap.size w w' := by
  unfold isV
  cases h1 : isNm 1 s.data.toList with
  | false =>
    have H1 : Hid (∀ w, Calls Tryd.prog 48 #[.string s, .int .u8 97, .int .u8 122, .bool true] w fun e w' => e = .returned (.bool false) ∧ w = w') := fun w => (word_lower s w hs).mono fun e w' h => ⟨by rw [h.1, h1], h.2⟩
    clear h1
    go_enter Tryd.func27, Tryd.ntmps27
    go_wp2_with (go_at_call 48; refine (H1.out _).mono ?_; rintro e w' ⟨rfl, rfl⟩)
    go_ret
    exact ⟨ret_bool rfl, Below.refl _ _⟩
  | true =>
    have H1 : Hid (∀ w, Calls Tryd.prog 48 #[.string s, .int .u8 97, .int .u8 122, .bool true] w fun e w' => e = .returned (.bool true) ∧ w = w') := fun w => (word_lower s w hs).mono fun e w' h => ⟨by rw [h.1, h1], h.2⟩
    clear h1
    go_enter Tryd.func27, Tryd.ntmps27
    go_wp2_with (first | (go_at_call 48; refine (H1.out _).mono ?_; rintro e w' ⟨rfl, rfl⟩) | (go_at_call 32; refine (Keywords_any _).mono ?_; rintro e w2 ⟨A, c, rfl, hL, hb⟩; have HL := Lib.hid hL; have HB := Lib.hid hb; clear hL hb) | (go_at_call 31; refine (HasKw _ _ _ _ HL.out).mono ?_; rintro e w' ⟨rfl, rfl⟩))
    go_ret
    exact ⟨ret_bool (by simp), HB.out⟩
end Go.Proofs.YtdnolbbkphgfiaaDoor
