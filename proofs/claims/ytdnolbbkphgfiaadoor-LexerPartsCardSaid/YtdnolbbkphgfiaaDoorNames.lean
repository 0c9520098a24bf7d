/- isName: whether a string is a word with room in a name. -/
import Derived.Test.YtdnolbbkphgfiaaDoorLeaf
namespace Go.Proofs.YtdnolbbkphgfiaaDoor
open Go.RowKit

theorem iterPos_of {w : World} {k : Nat} {s : ByteArray} {p : Nat} (h : w.heap[k]? = some (.stringIter s p)) : w.iterPos k = p := by simp [World.iterPos, h]
theorem len_data (s : ByteArray) : s.data.toList.length = s.size := by rw [Array.length_toList]; rfl
theorem nil_toList {s : ByteArray} (h : s.size = 0) : s.toList = [] := by
  rw [ByteArray.toList_eq]; apply List.eq_nil_of_length_eq_zero; rw [len_data]; exact h
theorem cons_toList {s : ByteArray} (h : s.size ≠ 0) : s.toList.isEmpty = false := by
  rw [List.isEmpty_eq_false_iff, ByteArray.toList_eq]; intro e; apply h; rw [← len_data, e]; rfl
theorem get_list (s : ByteArray) (k : Nat) (h : k < s.size) : s.data.toList[k]'(by rw [len_data]; exact h) = s[k] := rfl

set_option maxHeartbeats 400000 in
theorem isName_any (s : ByteArray) (first : Int) (w : World) (hs : s.size ≤ maxLen) :
    Calls Tryd.prog 47 #[.string s, .int .i64 first] w fun e w' => e = .returned (.bool (isNm first s.data.toList)) ∧ Below w.heap.size w w' := by
  unfold maxLen at hs
  have hsz : s.data.toList.length = s.size := len_data s
  by_cases h0 : s.size = 0
  · have he1 := nil_toList h0
    have he2 : s.toList.isEmpty = true := by rw [he1]; rfl
    have HR := Lib.hid (show isNm first s.data.toList = false by rw [← ByteArray.toList_eq, he1]; rfl)
    clear he1 h0 hsz
    go_enter Tryd.func47, Tryd.ntmps47
    go_wp2
    go_ret
    exact ⟨ret_bool HR.out.symm, Below.refl _ _⟩
  · have he2 := cons_toList h0
    by_cases h12 : 12 < s.size
    · have HR := Lib.hid (show isNm first s.data.toList = false from isNm_long (by omega))
      clear hsz
      go_enter Tryd.func47, Tryd.ntmps47
      go_wp2
      go_ret
      exact ⟨ret_bool HR.out.symm, Below.refl _ _⟩
    · have HSZ := Lib.hid hsz; clear hsz
      go_enter Tryd.func47, Tryd.ntmps47
      go_wp2
      go_loopw [] (fun wr => ∃ pos : Nat, wr.heap[w.heap.size]? = some (.stringIter s pos) ∧ pos ≤ s.size ∧ Below w.heap.size w wr ∧ Hid (∀ (j : Nat) (h : j < s.size), j < pos → kb s[j] ≠ 0) ∧ Hid (∀ (h : 0 < s.size), 0 < pos → kb s[0] = first)) (fun wr => s.size - wr.iterPos w.heap.size)
      case atStart => exact ⟨0, World.iter_heap w s 0, by omega, (Below.refl _ _).alloc (Nat.le_refl _) _, fun j h h2 => by omega, fun h h2 => by omega⟩
      case round =>
        obtain ⟨pos, hit, hle, hbw, HA, HF⟩ := hrel
        have hpos0 := Lib.hid (iterPos_of hit)
        by_cases hp : pos < s.size
        · by_cases ha : (s[pos]'hp).toNat < 128
          · have hnx : ∀ ty, (Instr.next (.pointer (some ⟨w.heap.size, 0, none⟩)) true ty).run Tryd.prog wr = _ := fun ty => Lib.run_next_ascii_at wr w.heap.size s pos ty hit hp ha
            have hit2 := Lib.iterAt_heap wr w.heap.size s pos (pos + 1) hit
            have hbw2 := Lib.below_iterAt hbw (k := w.heap.size) (Nat.le_refl _) s (pos + 1)
            obtain ⟨W1, hW1⟩ : ∃ W1, W1 = wr.iterAt w.heap.size s (pos + 1) := ⟨_, rfl⟩
            rw [← hW1] at hnx hit2 hbw2
            clear hW1 hit hbw
            by_cases hk0 : kindI ((s[pos]'hp).toNat : Int) = 0
            · have HR := Lib.hid (show isNm first s.data.toList = false from isNm_bad pos (by rw [len_data]; exact hp) hk0)
              clear hpos0 HA HF
              go_wp2_with (go_at_call 66; refine (kindOf_any _ _).mono ?_; rintro e w' ⟨rfl, rfl⟩)
              go_ret
              exact ⟨ret_bool HR.out.symm, hbw2⟩
            · have hk1 : (kindI ((s[pos]'hp).toNat : Int) == 0) = false := by simpa using hk0
              have HK := Lib.hid hk0
              clear hk0
              have HA2 : Hid (∀ (j : Nat) (h : j < s.size), j < pos + 1 → kb s[j] ≠ 0) := fun j h hj => by
                by_cases e : j = pos
                · subst e; exact HK.out
                · exact HA.out j h (by omega)
              clear HA HK
              by_cases hp0 : pos = 0
              · by_cases hf : kindI ((s[pos]'hp).toNat : Int) = first
                · have hf1 : (kindI ((s[pos]'hp).toNat : Int) != first) = false := by simp [hf]
                  have HF2 : Hid (∀ (h : 0 < s.size), 0 < pos + 1 → kb s[0] = first) := fun h _ => by subst hp0; exact hf
                  have h00 : ((pos : Int) == 0) = true := by simp [hp0]
                  have HP := Lib.hid hp0
                  clear hf HF hp0
                  go_wp2_with (go_at_call 66; refine (kindOf_any _ _).mono ?_; rintro e w' ⟨rfl, rfl⟩)
                  go_roundw
                  case rel => exact ⟨pos + 1, hit2, by omega, hbw2, HA2, HF2⟩
                  case measure => rw [iterPos_of hit2, hpos0.out]; omega
                · have hf1 : (kindI ((s[pos]'hp).toNat : Int) != first) = true := by simpa using hf
                  have HR := Lib.hid (show isNm first s.data.toList = false from isNm_first (by rw [len_data]; omega) (by subst hp0; exact hf))
                  have h00 : ((pos : Int) == 0) = true := by simp [hp0]
                  clear hf HF hp0
                  go_wp2_with (go_at_call 66; refine (kindOf_any _ _).mono ?_; rintro e w' ⟨rfl, rfl⟩)
                  go_ret
                  exact ⟨ret_bool HR.out.symm, hbw2⟩
              · have h00 : ((pos : Int) == 0) = false := by simp; omega
                have HF2 : Hid (∀ (h : 0 < s.size), 0 < pos + 1 → kb s[0] = first) := fun h _ => HF.out h (by omega)
                clear HF hp0
                go_wp2_with (go_at_call 66; refine (kindOf_any _ _).mono ?_; rintro e w' ⟨rfl, rfl⟩)
                go_roundw
                case rel => exact ⟨pos + 1, hit2, by omega, hbw2, HA2, HF2⟩
                case measure => rw [iterPos_of hit2, hpos0.out]; omega
          · have hd := decode_hi s pos hp (by omega)
            have hk0 : kindI ((Utf8.decode s pos).1 : Int) = 0 := kindI_hi _ (by omega)
            have hnx : ∀ ty, (Instr.next (.pointer (some ⟨w.heap.size, 0, none⟩)) true ty).run Tryd.prog wr = _ := fun ty => Lib.run_next_any_at wr w.heap.size s pos ty hit hp
            have HR := Lib.hid (show isNm first s.data.toList = false from isNm_bad pos (by rw [len_data]; exact hp) (kindI_hi _ (by show 128 ≤ (((s[pos]'hp).toNat : Nat) : Int); omega)))
            have hbw2 := Lib.below_iterAt hbw (k := w.heap.size) (Nat.le_refl _) s (pos + (Utf8.decode s pos).2)
            obtain ⟨W1, hW1⟩ : ∃ W1, W1 = wr.iterAt w.heap.size s (pos + (Utf8.decode s pos).2) := ⟨_, rfl⟩
            rw [← hW1] at hnx hbw2
            clear hW1 hit hbw hpos0 HA HF
            go_wp2_with (go_at_call 66; refine (kindOf_any _ _).mono ?_; rintro e w' ⟨rfl, rfl⟩)
            go_ret
            exact ⟨ret_bool HR.out.symm, hbw2⟩
        · have hnx : ∀ ty, (Instr.next (.pointer (some ⟨w.heap.size, 0, none⟩)) true ty).run Tryd.prog wr = _ := fun ty => Lib.run_next_end_at wr w.heap.size s pos ty hit hp
          clear hit hpos0
          go_wp2
          go_ret
          obtain rfl : pos = s.size := by omega
          have hsz := HSZ.out
          exact ⟨ret_bool (isNm_true (by omega) (by omega) (HF.out (by omega) (by omega)) (fun j h => HA.out j (by omega) (by omega))).symm, hbw⟩
end Go.Proofs.YtdnolbbkphgfiaaDoor
