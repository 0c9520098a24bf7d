/- isSymbol, and the reader's method symbol. -/
import Derived.Test.YtdnolbbkphgfiaaDoorSpace
namespace Go.Proofs.YtdnolbbkphgfiaaDoor
open Go.RowKit

def symVals : Array Value := (symList.map fun l => Value.string (strB l)).toArray
def symB (k : Nat) : ByteArray := strB (symList.getD k [])
/-- the program's table of symbols lies as its text lays it -/
def Syms (w : World) : Prop := ∃ t fr, w.heap[0]? = some (.cells symVals t fr)
theorem Syms.below {w w' : World} {B : Nat} (h : Syms w) (hb : Below B w w') (hB : 0 < B) : Syms w' := by
  obtain ⟨t, fr, e⟩ := h; exact ⟨t, fr, (hb.block 0 hB).trans e⟩
theorem Syms.grown {w w' : World} {row : Option Nat} (h : Syms w) (hg : w.grownBy w' row) (hne : some 0 ≠ row) : Syms w' := by
  obtain ⟨t, fr, e⟩ := h; exact ⟨t, fr, (hg.block 0 (Array.getElem?_eq_some_iff.1 e).1 hne).trans e⟩
theorem Syms.pos {w : World} (h : Syms w) : 0 < w.heap.size := by obtain ⟨t, fr, e⟩ := h; exact (Array.getElem?_eq_some_iff.1 e).1

theorem sym_ix (k : Nat) (hk : k < 20) (w : World) : (Instr.index 83 (.agg symVals) (.int .i64 (k : Int))).run Tryd.prog w = .ok (.string (symB k)) w := by
  have : k = 0 ∨ k = 1 ∨ k = 2 ∨ k = 3 ∨ k = 4 ∨ k = 5 ∨ k = 6 ∨ k = 7 ∨ k = 8 ∨ k = 9 ∨ k = 10 ∨ k = 11 ∨ k = 12 ∨ k = 13 ∨ k = 14 ∨ k = 15 ∨ k = 16 ∨ k = 17 ∨ k = 18 ∨ k = 19 := by omega
  rcases this with rfl | rfl | rfl | rfl | rfl | rfl | rfl | rfl | rfl | rfl | rfl | rfl | rfl | rfl | rfl | rfl | rfl | rfl | rfl | rfl <;> (clear hk; show _ = _; kernel_rfl)

theorem sym_eq (s : ByteArray) (k : Nat) : (s.toList == (symB k).toList) = (s.data.toList == symList.getD k []) := by
  rw [ByteArray.toList_eq, ByteArray.toList_eq]; rfl
theorem isSym_true {l : List UInt8} (k : Nat) (hk : k < 20) (h : symList.getD k [] = l) : isSym l = true := by
  unfold isSym
  rw [List.contains_iff_mem, ← h, List.getD_eq_getElem?_getD, List.getElem?_eq_getElem (by have : symList.length = 20 := rfl; omega)]
  exact List.getElem_mem _
theorem isSym_false {l : List UInt8} (h : ∀ j, j < 20 → symList.getD j [] ≠ l) : isSym l = false := by
  unfold isSym
  rw [Bool.eq_false_iff, ne_eq, List.contains_iff_mem]
  intro hm
  obtain ⟨j, hj, e⟩ := List.getElem_of_mem hm
  have hl : symList.length = 20 := rfl
  refine h j (by omega) ?_
  rw [List.getD_eq_getElem?_getD, List.getElem?_eq_getElem hj]; exact e

set_option maxHeartbeats 400000 in
theorem isSymbol_any (s : ByteArray) (w : World) (hS : Syms w) :
    Calls Tryd.prog 70 #[.string s] w fun e w' => e = .returned (.bool (isSym s.data.toList)) ∧ w = w' := by
  obtain ⟨tt, fr, hg⟩ := hS
  go_enter Tryd.func70, Tryd.ntmps70
  go_wp2_with (refine wpList_load_row rfl 83 _ rfl 0 rfl tt _ fr _ hg Tryd.underlying83 rfl (by kernel_rfl) ?_)
  clear hg
  go_loop [6] (fun i => ∃ k : Nat, k ≤ 20 ∧ i = .int .i64 (k : Int) ∧ Hid (∀ j, j < k → symList.getD j [] ≠ s.data.toList)) (fun i => 20 - (intOf i).toNat)
  case atStart => exact ⟨0, by omega, rfl, fun j h => by omega⟩
  case round =>
    obtain ⟨k, hk, rfl, HA⟩ := hrel
    by_cases hlt : k < 20
    · have hix := sym_ix k hlt
      have Hix := Lib.hid (sym_eq s k)
      by_cases he : symList.getD k [] = s.data.toList
      · have hb : (s.toList == (symB k).toList) = true := by rw [Hix.out, he]; simp
        have HR := Lib.hid (show isSym s.data.toList = true from isSym_true k hlt he)
        clear he HA
        go_wp2_with fail
        go_ret
        exact ⟨ret_bool HR.out.symm, rfl⟩
      · have hb : (s.toList == (symB k).toList) = false := by rw [Hix.out]; simpa using fun e => he e.symm
        have HA2 : Hid (∀ j, j < k + 1 → symList.getD j [] ≠ s.data.toList) := fun j hj => by
          by_cases e : j = k
          · subst e; exact he
          · exact HA.out j (by omega)
        clear he HA
        go_wp2_with fail
        go_round
        case rel => exact ⟨k + 1, by omega, by go_num, HA2⟩
        case measure => simp [intOf]; omega
    · obtain rfl : k = 20 := by omega
      have HR := Lib.hid (show isSym s.data.toList = false from isSym_false HA.out)
      clear HA
      go_wp2_with fail
      go_ret
      exact ⟨ret_bool HR.out.symm, rfl⟩

/-- the first symbol that is a prefix -/
theorem symAt_first (l : List UInt8) (k : Nat) (hk : k < 20) (h : (symList.getD k []).isPrefixOf l = true) (hn : ∀ j, j < k → (symList.getD j []).isPrefixOf l = false) : symAt l = symList.getD k [] := by
  unfold symAt
  have e : symList.find? (fun s => s.isPrefixOf l) = some (symList.getD k []) := by
    rw [List.find?_eq_some_iff_getElem]
    refine ⟨h, k, by simpa [symList] using hk, ?_, fun j hj => ?_⟩
    · rw [List.getD_eq_getElem?_getD, List.getElem?_eq_getElem (by simpa [symList] using hk)]; rfl
    · have := hn j hj
      rw [List.getD_eq_getElem?_getD, List.getElem?_eq_getElem (by have : symList.length = 20 := rfl; omega)] at this
      simpa using this
  rw [e]; rfl
theorem symAt_none (l : List UInt8) (hn : ∀ j, j < 20 → (symList.getD j []).isPrefixOf l = false) : symAt l = [] := by
  unfold symAt
  have e : symList.find? (fun s => s.isPrefixOf l) = none := by
    rw [List.find?_eq_none]
    intro x hx
    obtain ⟨j, hj, rfl⟩ := List.getElem_of_mem hx
    have := hn j (by simpa [symList] using hj)
    rw [List.getD_eq_getElem?_getD, List.getElem?_eq_getElem hj] at this
    exact fun h2 => by simp only [Option.getD_some] at this; rw [this] at h2; cases h2
  rw [e]; rfl
end Go.Proofs.YtdnolbbkphgfiaaDoor
