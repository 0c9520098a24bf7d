/- The reader's methods: take, word, symbol, space. -/
import Derived.Test.YtdnolbbkphgfiaaDoorNames
import Derived.Laws.OwnMore
import Derived.Laws.Rows
import Derived.Deep.Draws
import Derived.Deep.AppendLies
namespace Go.Proofs.YtdnolbbkphgfiaaDoor
open Go.RowKit

/-- a source lies in block b: its text, where it reads, where the token begins -/
def Src (w : World) (b : Nat) (s : ByteArray) (p q : Int) : Prop := w.heap[b]? = some (.cells #[.string s, .int .i64 p, .int .i64 q] 55 (0, 0))

section
variable {w w' : World} {b : Nat} {s : ByteArray} {p q : Int}
theorem Src.lt (h : Src w b s p q) : b < w.heap.size := (Array.getElem?_eq_some_iff.1 h).1
theorem Src.c0 (h : Src w b s p q) : w.cell? ⟨b, 0, none⟩ = some (.string s) := cell_of_row w b 0 _ 55 (0, 0) h
theorem Src.c1 (h : Src w b s p q) : w.cell? ⟨b, 1, none⟩ = some (.int .i64 p) := cell_of_row w b 1 _ 55 (0, 0) h
theorem Src.c2 (h : Src w b s p q) : w.cell? ⟨b, 2, none⟩ = some (.int .i64 q) := cell_of_row w b 2 _ 55 (0, 0) h
theorem Src.fr (h : Src w b s p q) (i : Nat) : w.frozen? ⟨b, i, none⟩ = false := by
  unfold Src at h; simp [World.frozen?, h]
theorem Src.kept (h : Src w b s p q) {row : Option Nat} (hg : w.grownBy w' row) (hne : some b ≠ row) : Src w' b s p q := (hg.block b h.lt hne).trans h
theorem Src.below (h : Src w b s p q) {B : Nat} (hg : Below B w w') (hb : b < B) : Src w' b s p q := (hg.block b hb).trans h
theorem Src.drewN (h : Src w b s p q) (n : Nat) : Src (w.drewN n) b s p q := h
theorem Src.set1 (h : Src w b s p q) (x : Int) : Src (w.setCell ⟨b, 1, none⟩ (.int .i64 x)) b s x q := by
  unfold Src at h ⊢; simp [World.setCell, Array.getElem?_modify, h]
theorem Src.set2 (h : Src w b s p q) (x : Int) : Src (w.setCell ⟨b, 2, none⟩ (.int .i64 x)) b s p x := by
  unfold Src at h ⊢; simp [World.setCell, Array.getElem?_modify, h]
theorem grown_set (w : World) (p : Addr) (v : Value) : w.grownBy (w.setCell p v) (some p.block) :=
  ⟨rfl, rfl, rfl, by simp [World.setCell], fun k _ hk => Below.heap_setCell w p v k (fun e => hk (by rw [e]))⟩
theorem grown_drewN (w : World) (n : Nat) (row : Option Nat) : w.grownBy (w.drewN n) row := ⟨rfl, rfl, rfl, Nat.le_refl _, fun _ _ _ => rfl⟩
theorem grown_trans {a c d : World} {row : Option Nat} (h : a.grownBy c row) (k : c.grownBy d row) : a.grownBy d row :=
  ⟨k.os.trans h.os, k.tape.trans h.tape, k.output.trans h.output, Nat.le_trans h.size k.size, fun i hi hr => (k.block i (Nat.lt_of_lt_of_le hi h.size) hr).trans (h.block i hi hr)⟩
theorem grown_below {a c : World} (h : Below a.heap.size a c) (row : Option Nat) : a.grownBy c row := ⟨h.os, h.tape, h.output, h.size, fun k hk _ => h.block k hk⟩
end

/-- what a method of the reader does: its text and its place in block b; nothing else that lay has changed -/
def Moved (w w' : World) (b : Nat) (s : ByteArray) (p q : Int) : Prop := Src w' b s p q ∧ w.grownBy w' (some b)
theorem Moved.mk' {w w' : World} {b : Nat} {s : ByteArray} {p q : Int} (h : Src w' b s p q) (g : w.grownBy w' (some b)) : Moved w w' b s p q := ⟨h, g⟩

set_option maxHeartbeats 400000 in
theorem take_any (b : Nat) (s : ByteArray) (p n : Nat) (q : Int) (w : World) (hS : Src w b s p q) (hs : s.size ≤ 30000) (hpn : p + n ≤ s.size) :
    Calls Tryd.prog 67 #[.pointer (some ⟨b, 0, none⟩), .int .i64 n] w fun e w' => e = .returned (.string (s.extract p (p + n))) ∧ Moved w w' b s ((p + n : Nat) : Int) q := by
  have h0 := hS.c0
  have h1 := hS.c1
  have hf1 := hS.fr 1
  have HS := Lib.hid hS
  clear hS
  go_enter Tryd.func67, Tryd.ntmps67
  go_wp2
  go_quiet (fail)
  go_wp2
  go_ret
  refine ⟨rfl, Moved.mk' ?_ (grown_trans (grown_drewN w nq _) (grown_set _ ⟨b, 1, none⟩ _))⟩
  have := (HS.out.drewN nq).set1 ((p : Int) + n)
  rw [Int.natCast_add]
  exact this

theorem byte_lt (c : UInt8) : (c.toNat : Int) < 256 ∧ 0 ≤ (c.toNat : Int) := by have := c.toNat_lt; omega
theorem w32b (c : UInt8) : wrap32 (c.toNat : Int) = (c.toNat : Int) := IntWalk.wrap32_in _ (by have := byte_lt c; omega)
theorem get_drop (s : ByteArray) (p j : Nat) (h : p + j < s.size) : (s.data.toList.drop p)[j]'(by rw [List.length_drop, len_data]; omega) = s[p + j] := by
  rw [List.getElem_drop]; rfl
theorem wordLen_at (s : ByteArray) (p m : Nat) (hp : p ≤ m) (hm : m ≤ s.size) (h1 : ∀ (j : Nat) (h : j < s.size), p ≤ j → j < m → kb s[j] ≠ 0) (h2 : ∀ h : m < s.size, kb s[m] = 0) :
    p + wordLen (s.data.toList.drop p) = m := by
  obtain ⟨k, rfl⟩ : ∃ k, m = p + k := ⟨m - p, by omega⟩
  rw [wordLen_eq (s.data.toList.drop p) k (by rw [List.length_drop, len_data]; omega) (fun j h hj => by rw [List.length_drop, len_data] at h; rw [get_drop s p j (by omega)]; exact h1 _ _ (by omega) (by omega)) (fun h => by rw [List.length_drop, len_data] at h; rw [get_drop s p k (by omega)]; exact h2 _)]

set_option maxHeartbeats 400000 in
theorem word_any (b : Nat) (s : ByteArray) (p : Nat) (q : Int) (w : World) (hS : Src w b s p q) (hs : s.size ≤ 30000) (hp : p ≤ s.size) :
    Calls Tryd.prog 53 #[.pointer (some ⟨b, 0, none⟩)] w fun e w' => e = .returned (.string (s.extract p (p + wordLen (s.data.toList.drop p)))) ∧ Moved w w' b s ((p + wordLen (s.data.toList.drop p) : Nat) : Int) q := by
  have h0 := hS.c0
  have h1 := hS.c1
  have HS := Lib.hid hS
  clear hS
  go_enter Tryd.func53, Tryd.ntmps53
  go_wp2
  go_loop [3] (fun i => ∃ m : Nat, p ≤ m ∧ m ≤ s.size ∧ i = .int .i64 (m : Int) ∧ Hid (∀ (j : Nat) (h : j < s.size), p ≤ j → j < m → kb s[j] ≠ 0)) (fun i => s.size - (intOf i).toNat)
  case atStart => exact ⟨p, by omega, hp, rfl, fun j h hj => by omega⟩
  case round =>
    obtain ⟨m, hpm, hk, rfl, HA⟩ := hrel
    have HT : Hid (∀ w : World, Src w b s p q → Calls Tryd.prog 67 #[.pointer (some ⟨b, 0, none⟩), .int .i64 ((m : Int) - p)] w fun e w' => e = .returned (.string (s.extract p m)) ∧ Moved w w' b s (m : Int) q) := fun w h => by
      have := take_any b s p (m - p) q w h hs (by omega)
      rw [show p + (m - p) = m from by omega, show ((m - p : Nat) : Int) = (m : Int) - p from by omega] at this
      exact this
    by_cases hlt : m < s.size
    · have hw := w32b (s[m]'hlt)
      by_cases hk0 : kindI ((s[m]'hlt).toNat : Int) = 0
      · have HW := Lib.hid (wordLen_at s p m hpm hk HA.out (fun h => hk0))
        clear HA
        go_wp2_with (first | (go_at_call 66; refine (kindOf_any _ _).mono ?_; rintro e w' ⟨rfl, rfl⟩) | (go_at_call 67; refine (HT.out _ HS.out).mono ?_; rintro e w' ⟨rfl, HM⟩))
        go_ret
        rw [HW.out]
        exact ⟨rfl, HM⟩
      · have hk1 : (kindI ((s[m]'hlt).toNat : Int) != 0) = true := by simpa using hk0
        have HA2 : Hid (∀ (j : Nat) (h : j < s.size), p ≤ j → j < m + 1 → kb s[j] ≠ 0) := fun j h hp hj => by
          by_cases e : j = m
          · subst e; exact hk0
          · exact HA.out j h hp (by omega)
        clear HA hk0
        go_wp2_with (first | (go_at_call 66; refine (kindOf_any _ _).mono ?_; rintro e w' ⟨rfl, rfl⟩))
        go_round
        case rel => exact ⟨m + 1, by omega, by omega, by go_num, HA2⟩
        case measure => simp [intOf]; omega
    · have HW := Lib.hid (wordLen_at s p m hpm hk HA.out (fun h => absurd h hlt))
      clear HA
      go_wp2_with (first | (go_at_call 66; refine (kindOf_any _ _).mono ?_; rintro e w' ⟨rfl, rfl⟩) | (go_at_call 67; refine (HT.out _ HS.out).mono ?_; rintro e w' ⟨rfl, HM⟩))
      go_ret
      rw [HW.out]
      exact ⟨rfl, HM⟩
end Go.Proofs.YtdnolbbkphgfiaaDoor
