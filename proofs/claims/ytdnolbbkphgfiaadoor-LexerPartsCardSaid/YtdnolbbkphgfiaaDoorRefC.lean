/- The reference's long, Space, begins. -/
import Derived.Test.YtdnolbbkphgfiaaDoorRefB
namespace Go.Proofs.YtdnolbbkphgfiaaDoor
open Go.RowKit

theorem L71 {c : Int} {r : Bool} (h : lettB c = r) (w : World) : Calls Tryd.prog 71 #[.int .u8 c] w fun e w' => e = .returned (.bool r) ∧ w = w' := by rw [← h]; exact letter_any c w
theorem L72 {c : Int} {r : Bool} (h : digB c = r) (w : World) : Calls Tryd.prog 72 #[.int .u8 c] w fun e w' => e = .returned (.bool r) ∧ w = w' := by rw [← h]; exact digit_any c w
theorem L51 {c : Int} {r : Bool} (h : blankB c = r) (w : World) : Calls Tryd.prog 51 #[.int .u8 c] w fun e w' => e = .returned (.bool r) ∧ w = w' := by rw [← h]; exact blank_any c w
theorem kb_cases (c : Int) : (kindI c = 0 ∧ lettB c = false ∧ digB c = false) ∨ (kindI c ≠ 0 ∧ lettB c = true) ∨ (kindI c ≠ 0 ∧ lettB c = false ∧ digB c = true) := by
  have h := kindI_range c
  unfold lettB digB
  have : kindI c = 0 ∨ kindI c = 1 ∨ kindI c = 2 ∨ kindI c = 3 := by omega
  rcases this with h | h | h | h <;> rw [h] <;> simp

set_option maxRecDepth 100000 in
set_option maxHeartbeats 1000000 in
theorem long_any (s : ByteArray) (p : Nat) (w : World) (hs : s.size ≤ 281474976710656) (hp : p ≤ s.size) :
    Calls Tryd.prog 57 #[.string s, .int .i64 (p : Int)] w fun e w' => e = .returned (.int .i64 (wordLen (s.data.toList.drop p) : Int)) ∧ w = w' := by
  go_enter Tryd.func57, Tryd.ntmps57
  go_wp2_with fail
  go_loop [5] (fun i => ∃ k : Nat, p + k ≤ s.size ∧ i = .int .i64 (k : Int) ∧ Hid (∀ (j : Nat) (h : j < s.size), p ≤ j → j < p + k → kb s[j] ≠ 0)) (fun i => s.size - (intOf i).toNat)
  case atStart => exact ⟨0, by omega, rfl, fun j h h2 h3 => by omega⟩
  case round =>
    obtain ⟨k, hk, rfl, HA⟩ := hrel
    by_cases hlt : p + k < s.size
    · have hcell : (0 : Int) ≤ (p : Int) + k ∧ (p : Int) + k < (s.size : Int) := by omega
      obtain ⟨c1, c2⟩ := hcell
      rcases kb_cases ((s[p + k]'hlt).toNat : Int) with ⟨z, hl, hd⟩ | ⟨z, hl⟩ | ⟨z, hl, hd⟩
      · have HW := Lib.hid (wordLen_at s p (p + k) (by omega) hk HA.out (fun h => z))
        have HL := Lib.hid (fun w => L71 hl w)
        have HD := Lib.hid (fun w => L72 hd w)
        clear HA z hl hd
        go_wp2_with (first | (go_at_call 71; refine (HL.out _).mono ?_; rintro e w' ⟨rfl, rfl⟩) | (go_at_call 72; refine (HD.out _).mono ?_; rintro e w' ⟨rfl, rfl⟩))
        go_ret
        exact ⟨ret_int (by have := HW.out; omega), rfl⟩
      · have HA2 : Hid (∀ (j : Nat) (h : j < s.size), p ≤ j → j < p + (k + 1) → kb s[j] ≠ 0) := fun j h h1 hj => by
          by_cases e : j = p + k
          · subst e; exact z
          · exact HA.out j h h1 (by omega)
        have HL := Lib.hid (fun w => L71 hl w)
        clear HA z hl
        go_wp2_with (first | (go_at_call 71; refine (HL.out _).mono ?_; rintro e w' ⟨rfl, rfl⟩))
        go_round
        case rel => exact ⟨k + 1, by omega, by go_num, HA2⟩
        case measure => simp [intOf]; omega
      · have HA2 : Hid (∀ (j : Nat) (h : j < s.size), p ≤ j → j < p + (k + 1) → kb s[j] ≠ 0) := fun j h h1 hj => by
          by_cases e : j = p + k
          · subst e; exact z
          · exact HA.out j h h1 (by omega)
        have HL := Lib.hid (fun w => L71 hl w)
        have HD := Lib.hid (fun w => L72 hd w)
        clear HA z hl hd
        go_wp2_with (first | (go_at_call 71; refine (HL.out _).mono ?_; rintro e w' ⟨rfl, rfl⟩) | (go_at_call 72; refine (HD.out _).mono ?_; rintro e w' ⟨rfl, rfl⟩))
        go_round
        case rel => exact ⟨k + 1, by omega, by go_num, HA2⟩
        case measure => simp [intOf]; omega
    · have HW := Lib.hid (wordLen_at s p (p + k) (by omega) hk HA.out (fun h => absurd h hlt))
      clear HA
      go_wp2_with fail
      go_ret
      exact ⟨ret_int (by have := HW.out; omega), rfl⟩

theorem blank_of {c : UInt8} {r : Bool} (h : (c == 32 || c == 9 || c == 10) = r) : blankB (c.toNat : Int) = r := by
  unfold blankB
  have h1 : ((c.toNat : Int) == 32) = (c == 32) := beq_u8 (by decide)
  have h2 : ((c.toNat : Int) == 9) = (c == 9) := beq_u8 (by decide)
  have h3 : ((c.toNat : Int) == 10) = (c == 10) := beq_u8 (by decide)
  rw [h1, h2, h3]; exact h

set_option maxRecDepth 100000 in
set_option maxHeartbeats 2000000 in
theorem rSpace_any (s : ByteArray) (p : Nat) (w : World) (hs : s.size ≤ 281474976710656) (hp : p ≤ s.size) :
    Calls Tryd.prog 36 #[.string s, .int .i64 (p : Int)] w fun e w' => e = .returned (.int .i64 (spLen false (s.data.toList.drop p) : Int)) ∧ w = w' := by
  go_enter Tryd.func36, Tryd.ntmps36
  go_wp2_with fail
  go_loop [5, 6] (fun i c => ∃ (k : Nat) (cm : Bool), p + k ≤ s.size ∧ i = .int .i64 (k : Int) ∧ c = .bool cm ∧ Hid (spLen false (s.data.toList.drop p) = k + spLen cm (s.data.toList.drop (p + k)))) (fun i _ => s.size - (intOf i).toNat)
  case atStart => exact ⟨0, false, by omega, rfl, rfl, by show _ = _; rw [Nat.add_zero, Nat.zero_add]⟩
  case round =>
    obtain ⟨k, cm, hk, rfl, rfl, HA⟩ := hrel
    by_cases hlt : p + k < s.size
    · have hcell : (0 : Int) ≤ (p : Int) + k ∧ (p : Int) + k < (s.size : Int) := by omega
      obtain ⟨c1, c2⟩ := hcell
      have g10 : (((s[p + k]'hlt).toNat : Int) == 10) = (s[p + k] == 10) := beq_u8 (by decide)
      have g35 : (((s[p + k]'hlt).toNat : Int) == 35) = (s[p + k] == 35) := beq_u8 (by decide)
      by_cases h10 : s[p + k] = 10
      · have b10 : (((s[p + k]'hlt).toNat : Int) != 10) = false := by rw [bne, g10, h10]; rfl
        have HB := Lib.hid (fun w => L51 (blank_of (c := s[p + k]) (r := true) (by rw [h10]; rfl)) w)
        have HW : Hid (spLen false (s.data.toList.drop p) = (k + 1) + spLen false (s.data.toList.drop (p + (k + 1)))) := by
          show _ = _
          rw [HA.out, sp_nl s (p + k) cm hlt h10, show p + k + 1 = p + (k + 1) from by omega]; omega
        clear HA g10 g35 h10
        go_wp2_with (go_at_call 51; refine (HB.out _).mono ?_; rintro e w' ⟨rfl, rfl⟩)
        go_round
        case rel => exact ⟨k + 1, false, by omega, by go_num, rfl, HW⟩
        case measure => simp [intOf]; omega
      have b10 : (((s[p + k]'hlt).toNat : Int) != 10) = true := by rw [bne, g10]; simpa using h10
      by_cases h35 : s[p + k] = 35
      · have b35 : (((s[p + k]'hlt).toNat : Int) == 35) = true := by rw [g35, h35]; rfl
        have HW : Hid (spLen false (s.data.toList.drop p) = (k + 1) + spLen true (s.data.toList.drop (p + (k + 1)))) := by
          show _ = _
          rw [HA.out, sp_hash s (p + k) cm hlt h35, show p + k + 1 = p + (k + 1) from by omega]; omega
        clear HA g10 g35 h10 h35
        cases cm
        all_goals
          go_wp2_with fail
          go_round
          case rel => exact ⟨k + 1, true, by omega, by go_num, rfl, HW⟩
          case measure => simp [intOf]; omega
      have b35 : (((s[p + k]'hlt).toNat : Int) == 35) = false := by rw [g35]; simpa using h35
      cases cm with
      | true =>
        have HW : Hid (spLen false (s.data.toList.drop p) = (k + 1) + spLen true (s.data.toList.drop (p + (k + 1)))) := by
          show _ = _
          rw [HA.out, sp_in s (p + k) true hlt h10 h35 (.inl rfl), show p + k + 1 = p + (k + 1) from by omega]; omega
        clear HA g10 g35 h10 h35
        go_wp2_with fail
        go_round
        case rel => exact ⟨k + 1, true, by omega, by go_num, rfl, HW⟩
        case measure => simp [intOf]; omega
      | false =>
        by_cases hb : s[p + k] = 32 ∨ s[p + k] = 9
        · have HB := Lib.hid (fun w => L51 (blank_of (c := s[p + k]) (r := true) (by rcases hb with h | h <;> rw [h] <;> rfl)) w)
          have HW : Hid (spLen false (s.data.toList.drop p) = (k + 1) + spLen false (s.data.toList.drop (p + (k + 1)))) := by
            show _ = _
            rw [HA.out, sp_in s (p + k) false hlt h10 h35 (.inr hb), show p + k + 1 = p + (k + 1) from by omega]; omega
          clear HA g10 g35 h10 h35 hb
          go_wp2_with (go_at_call 51; refine (HB.out _).mono ?_; rintro e w' ⟨rfl, rfl⟩)
          go_round
          case rel => exact ⟨k + 1, false, by omega, by go_num, rfl, HW⟩
          case measure => simp [intOf]; omega
        · have HB := Lib.hid (fun w => L51 (blank_of (c := s[p + k]) (r := false) (by
            have h1 : s[p + k] ≠ 32 := fun h => hb (.inl h)
            have h2 : s[p + k] ≠ 9 := fun h => hb (.inr h)
            simp [h1, h2, h10])) w)
          have HW : Hid (spLen false (s.data.toList.drop p) = k) := by
            show _ = _
            rw [HA.out, sp_out s (p + k) hlt h10 h35 (fun h => hb (.inl h)) (fun h => hb (.inr h)), Nat.add_zero]
          clear HA g10 g35 h10 h35 hb
          go_wp2_with (go_at_call 51; refine (HB.out _).mono ?_; rintro e w' ⟨rfl, rfl⟩)
          go_ret
          exact ⟨ret_int (by rw [HW.out]), rfl⟩
    · have HW : Hid (spLen false (s.data.toList.drop p) = k) := by
        show _ = _
        rw [HA.out, sp_end s (p + k) cm hlt, Nat.add_zero]
      clear HA
      go_wp2_with fail
      go_ret
      exact ⟨ret_int (by rw [HW.out]), rfl⟩
end Go.Proofs.YtdnolbbkphgfiaaDoor
