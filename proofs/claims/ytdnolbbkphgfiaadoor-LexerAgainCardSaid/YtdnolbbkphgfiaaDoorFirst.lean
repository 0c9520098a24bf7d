/- firstOf: what the first of the given ways of reading that reads anything has read. -/
import Derived.Test.YtdnolbbkphgfiaaDoorTok
namespace Go.Proofs.YtdnolbbkphgfiaaDoor
open Go.RowKit

theorem part_word (l : List UInt8) (h : wordLen l ≠ 0) : partOf l = l.take (wordLen l) := by unfold partOf; rw [if_neg h]
theorem part_sym (l : List UInt8) (h : wordLen l = 0) : partOf l = symAt l := by unfold partOf; rw [if_pos h]
theorem extract_take (s : ByteArray) (p n : Nat) : s.extract p (p + n) = strB ((s.data.toList.drop p).take n) := by
  apply Go.WideShapes.bytes_inj
  rw [Lib.extract_data, data_strB, Nat.add_sub_cancel_left]
theorem strB_nil_list {l : List UInt8} (h : l = []) : (strB l).toList.isEmpty = true := by rw [ByteArray.toList_eq, data_strB, h]; rfl
theorem strB_ne_list {l : List UInt8} (h : l ≠ []) : (strB l).toList.isEmpty = false := by rw [ByteArray.toList_eq, data_strB]; simpa using h

def bound (f : Nat) (b : Nat) : Value := .func (.func f) #[.pointer (some ⟨b, 0, none⟩)] #[]
/-- the two ways of reading lie in block g -/
def Ways (w : World) (g b : Nat) : Prop := w.heap[g]? = some (.cells #[bound 53 b, bound 54 b] 74 (0, 0))
theorem Ways.lt {w : World} {g b : Nat} (h : Ways w g b) : g < w.heap.size := (Array.getElem?_eq_some_iff.1 h).1
theorem Ways.c0 {w : World} {g b : Nat} (h : Ways w g b) : w.cell? ⟨g, 0, none⟩ = some (.func (.func 53) #[.pointer (some ⟨b, 0, none⟩)] #[]) := cell_of_row w g 0 _ 74 (0, 0) h
theorem Ways.c1 {w : World} {g b : Nat} (h : Ways w g b) : w.cell? ⟨g, 1, none⟩ = some (.func (.func 54) #[.pointer (some ⟨b, 0, none⟩)] #[]) := cell_of_row w g 1 _ 74 (0, 0) h
theorem Ways.kept {w w' : World} {g b : Nat} (h : Ways w g b) {row : Option Nat} (hg : w.grownBy w' row) (hne : some g ≠ row) : Ways w' g b := (hg.block g h.lt hne).trans h
theorem Ways.ne {w : World} {g b : Nat} {s : ByteArray} {p q : Int} (h : Ways w g b) (hs : Src w b s p q) : g ≠ b := by
  rintro rfl
  unfold Ways at h; unfold Src at hs
  rw [h] at hs
  injection hs with hs
  injection hs with _ ht
  cases ht

set_option maxHeartbeats 1000000 in
theorem firstOf_any (g b : Nat) (s : ByteArray) (p : Nat) (q : Int) (w : World) (hS : Src w b s p q) (hY : Syms w) (hb0 : b ≠ 0) (hW : Ways w g b) (hs : s.size ≤ 30000) (hp : p ≤ s.size) :
    Calls Tryd.prog 56 #[.slice (some ⟨g, 0, none⟩) 2 2] w fun e w' => e = .returned (.string (strB (partOf (s.data.toList.drop p)))) ∧ Moved w w' b s ((p + (partOf (s.data.toList.drop p)).length : Nat) : Int) q := by
  have HS := Lib.hid hS
  have HW := Lib.hid hW
  have HY := Lib.hid hY
  clear hS hW hY
  go_enter Tryd.func56, Tryd.ntmps56
  go_wp2_with fail
  go_loopw [8] (fun i wr => ∃ k : Nat, i = .int .i64 (k : Int) ∧ k ≤ 2 ∧ Hid (Src wr b s p q) ∧ Hid (w.grownBy wr (some b)) ∧ Hid (1 ≤ k → wordLen (s.data.toList.drop p) = 0) ∧ Hid (2 ≤ k → partOf (s.data.toList.drop p) = [])) (fun i _ => 2 - (intOf i).toNat)
  case atStart => exact ⟨0, rfl, by omega, HS, World.grownBy.refl _ _, (fun h => by omega), (fun h => by omega)⟩
  case round =>
    obtain ⟨k, rfl, hk, HS1, HG, H1, H2⟩ := hrel
    have HW1 := Lib.hid (HW.out.kept HG.out (by simp [HW.out.ne HS.out]))
    have w0 := HW1.out.c0
    have w1 := HW1.out.c1
    have HY1 := Lib.hid (HY.out.grown HG.out (by simp; omega))
    obtain rfl | rfl | rfl : k = 0 ∨ k = 1 ∨ k = 2 := by omega
    · by_cases hw : wordLen (s.data.toList.drop p) = 0
      · have HC : Hid (∀ w, Src w b s p q → Calls Tryd.prog 53 #[.pointer (some ⟨b, 0, none⟩)] w fun e w' => e = .returned (.string ⟨#[]⟩) ∧ Moved w w' b s p q) := fun w h => (word_any b s p q w h hs hp).mono fun e w' h => ⟨by rw [h.1, extract_take, hw]; rfl, by have := h.2; rw [hw] at this; exact this⟩
        have HWL := Lib.hid hw
        clear hw
        go_wp2_with (go_at_call 53; refine (HC.out _ HS1.out).mono ?_; rintro e w2 ⟨rfl, HM⟩)
        go_roundw
        case rel => exact ⟨1, rfl, by omega, HM.1, grown_trans HG.out HM.2, (fun _ => HWL.out), (fun h => by omega)⟩
        case measure => simp [intOf]
      · have HP := Lib.hid (part_word _ hw)
        have hne : partOf (s.data.toList.drop p) ≠ [] := by
          rw [HP.out]; intro h
          have := congrArg List.length h
          rw [List.length_take, Nat.min_eq_left (wordLen_le _)] at this
          exact hw this
        have HC : Hid (∀ w, Src w b s p q → Calls Tryd.prog 53 #[.pointer (some ⟨b, 0, none⟩)] w fun e w' => e = .returned (.string (strB (partOf (s.data.toList.drop p)))) ∧ Moved w w' b s ((p + (partOf (s.data.toList.drop p)).length : Nat) : Int) q) := fun w h => (word_any b s p q w h hs hp).mono fun e w' h => ⟨by rw [h.1, extract_take, HP.out], by
          have := h.2
          rw [HP.out, List.length_take, Nat.min_eq_left (wordLen_le _)]; exact this⟩
        have hb := strB_ne_list hne
        clear hw hne HP
        go_wp2_with (go_at_call 53; refine (HC.out _ HS1.out).mono ?_; rintro e w2 ⟨rfl, HM⟩)
        go_ret
        exact ⟨rfl, HM.1, grown_trans HG.out HM.2⟩
    · have HP := Lib.hid (part_sym _ (H1.out (by omega)))
      have HC : Hid (∀ w, Src w b s p q → Syms w → Calls Tryd.prog 54 #[.pointer (some ⟨b, 0, none⟩)] w fun e w' => e = .returned (.string (strB (partOf (s.data.toList.drop p)))) ∧ Moved w w' b s ((p + (partOf (s.data.toList.drop p)).length : Nat) : Int) q) := fun w h h2 => (symbol_any b s p q w h h2 hs hp).mono fun e w' h => ⟨by rw [h.1, HP.out], by rw [HP.out]; exact h.2⟩
      by_cases hne : partOf (s.data.toList.drop p) = []
      · have HC2 : Hid (∀ w, Src w b s p q → Syms w → Calls Tryd.prog 54 #[.pointer (some ⟨b, 0, none⟩)] w fun e w' => e = .returned (.string ⟨#[]⟩) ∧ Moved w w' b s p q) := fun w h h2 => (HC.out w h h2).mono fun e w' h => ⟨by rw [h.1, hne]; rfl, by have := h.2; rw [hne] at this; exact this⟩
        have HN := Lib.hid hne
        clear hne HC HP
        go_wp2_with (go_at_call 54; refine (HC2.out _ HS1.out HY1.out).mono ?_; rintro e w2 ⟨rfl, HM⟩)
        go_roundw
        case rel => exact ⟨2, rfl, by omega, HM.1, grown_trans HG.out HM.2, (fun _ => H1.out (by omega)), (fun _ => HN.out)⟩
        case measure => simp [intOf]
      · have hb := strB_ne_list hne
        clear hne HP
        go_wp2_with (go_at_call 54; refine (HC.out _ HS1.out HY1.out).mono ?_; rintro e w2 ⟨rfl, HM⟩)
        go_ret
        exact ⟨rfl, HM.1, grown_trans HG.out HM.2⟩
    · have HN := Lib.hid (H2.out (by omega))
      go_wp2_with fail
      go_ret
      rw [HN.out]
      exact ⟨rfl, HS1.out, HG.out⟩
end Go.Proofs.YtdnolbbkphgfiaaDoor
