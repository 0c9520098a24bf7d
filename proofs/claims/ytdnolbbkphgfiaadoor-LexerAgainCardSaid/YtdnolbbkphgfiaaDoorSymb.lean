/- The reader's method symbol. -/
import Derived.Test.YtdnolbbkphgfiaaDoorSym
import Derived.Test.YtdnolbbkphgfiaaDoorShelf
namespace Go.Proofs.YtdnolbbkphgfiaaDoor
open Go.RowKit

theorem drop_data (s : ByteArray) (p : Nat) : (s.extract p s.size).data.toList = s.data.toList.drop p := by
  rw [Lib.extract_data, List.take_of_length_le]
  rw [List.length_drop, len_data]; omega
theorem symB_prefix (s : ByteArray) (p k : Nat) (hps : p ≤ s.size) (h : (symList.getD k []).isPrefixOf (s.data.toList.drop p) = true) : p + (symB k).size ≤ s.size ∧ s.extract p (p + (symB k).size) = symB k := by
  rw [List.isPrefixOf_iff_prefix] at h
  obtain ⟨t, ht⟩ := h
  have hl : (symB k).size = (symList.getD k []).length := by rw [← len_data]; rfl
  have h1 : (symList.getD k []).length + t.length = s.size - p := by rw [← List.length_append, ht, List.length_drop, len_data]
  refine ⟨by omega, ?_⟩
  apply Go.WideShapes.bytes_inj
  rw [Lib.extract_data, ← ht, hl, show p + (symList.getD k []).length - p = (symList.getD k []).length from by omega, List.take_left']
  · rfl
  · rfl

set_option maxHeartbeats 600000 in
theorem symbol_any (b : Nat) (s : ByteArray) (p : Nat) (q : Int) (w : World) (hS : Src w b s p q) (hY : Syms w) (hs : s.size ≤ 30000) (hp : p ≤ s.size) :
    Calls Tryd.prog 54 #[.pointer (some ⟨b, 0, none⟩)] w fun e w' => e = .returned (.string (strB (symAt (s.data.toList.drop p)))) ∧ Moved w w' b s ((p + (symAt (s.data.toList.drop p)).length : Nat) : Int) q := by
  obtain ⟨tt, fr, hg⟩ := hY
  have HE := Lib.hid (drop_data s p)
  have HS := Lib.hid hS
  clear hS
  go_enter Tryd.func54, Tryd.ntmps54
  go_wp2_with (refine wpList_load_row rfl 83 _ rfl 0 rfl tt _ fr _ hg Tryd.underlying83 rfl (by kernel_rfl) ?_)
  clear hg
  go_loopw [6] (fun i wr => ∃ k : Nat, k ≤ 20 ∧ i = .int .i64 (k : Int) ∧ Hid (Src wr b s p q) ∧ Hid (w.grownBy wr (some b)) ∧ Hid (∀ j, j < k → (symList.getD j []).isPrefixOf (s.data.toList.drop p) = false)) (fun i _ => 20 - (intOf i).toNat)
  case atStart => exact ⟨0, by omega, rfl, HS, World.grownBy.refl _ _, fun j h => by omega⟩
  case round =>
    clear HS
    obtain ⟨k, hk, rfl, HS, HG, HA⟩ := hrel
    have h0 := HS.out.c0
    have h1 := HS.out.c1
    by_cases hlt : k < 20
    · have hix := sym_ix k hlt
      by_cases he : (symList.getD k []).isPrefixOf (s.data.toList.drop p) = true
      · have HC : Hid (∀ w, Calls Tryd.prog 68 #[.string (s.extract p s.size), .string (symB k)] w fun e w' => e = .returned (.bool true) ∧ w' = w) := fun w =>
          (Tryd.strings_HasPrefix _ _ w).mono fun e w' h => ⟨by rw [h.1]; apply ret_bool; rw [HE.out]; exact he, h.2⟩
        have HR := Lib.hid (symAt_first _ k hlt he HA.out)
        have HT : Hid (∀ w : World, Src w b s p q → Calls Tryd.prog 67 #[.pointer (some ⟨b, 0, none⟩), .int .i64 ((symB k).size : Int)] w fun e w' => e = .returned (.string (symB k)) ∧ Moved w w' b s ((p + (symB k).size : Nat) : Int) q) := fun w h => by
          have hx := symB_prefix s p k hp he
          have := take_any b s p (symB k).size q w h hs hx.1
          rw [hx.2] at this
          exact this
        clear he HA
        go_wp2_with fail
        go_quiet ((go_at_call 68; exact Calls.quiet_of_same (HC.out _)))
        go_wp2_with (go_at_call 67; refine (HT.out _ (HS.out.drewN nq)).mono ?_; rintro e w' ⟨rfl, HM⟩)
        go_ret
        rw [HR.out]
        refine ⟨rfl, Moved.mk' ?_ (grown_trans (grown_trans HG.out (grown_drewN _ nq _)) HM.2)⟩
        have := HM.1
        rw [show (symB k).size = (symList.getD k []).length from by rw [← len_data]; rfl] at this
        exact this
      · have HC : Hid (∀ w, Calls Tryd.prog 68 #[.string (s.extract p s.size), .string (symB k)] w fun e w' => e = .returned (.bool false) ∧ w' = w) := fun w =>
          (Tryd.strings_HasPrefix _ _ w).mono fun e w' h => ⟨by rw [h.1]; apply ret_bool; rw [HE.out]; exact Bool.eq_false_iff.2 he, h.2⟩
        have HA2 : Hid (∀ j, j < k + 1 → (symList.getD j []).isPrefixOf (s.data.toList.drop p) = false) := fun j hj => by
          by_cases e : j = k
          · subst e; exact Bool.eq_false_iff.2 he
          · exact HA.out j (by omega)
        clear he HA
        go_wp2_with fail
        go_quiet ((go_at_call 68; exact Calls.quiet_of_same (HC.out _)))
        go_wp2_with fail
        go_roundw
        case rel => exact ⟨k + 1, by omega, by go_num, HS.out.drewN nq, grown_trans HG.out (grown_drewN _ nq _), HA2⟩
        case measure => simp [intOf]; omega
    · obtain rfl : k = 20 := by omega
      have HR := Lib.hid (symAt_none _ HA.out)
      clear HA
      go_wp2_with fail
      go_ret
      rw [HR.out]
      exact ⟨rfl, Moved.mk' HS.out HG.out⟩
end Go.Proofs.YtdnolbbkphgfiaaDoor
