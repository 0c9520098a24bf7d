/- The reference's begins. -/
import Derived.Test.YtdnolbbkphgfiaaDoorRefC
import Derived.Test.YtdnolbbkphgfiaaDoorFirst
import Derived.BigQuiet
namespace Go.Proofs.YtdnolbbkphgfiaaDoor
open Go.RowKit

theorem sym2_first (l : List UInt8) : symList2.find? (fun s => s.isPrefixOf l) = symList.find? (fun s => s.isPrefixOf l) := by
  cases l with
  | nil => rfl
  | cons c r =>
    by_cases h : c = 58
    · subst h; simp [symList2, symList, List.find?, List.isPrefixOf]
    · have h2 : ((58 : UInt8) == c) = false := by rw [beq_eq_false_iff_ne]; exact fun e => h e.symm
      simp [symList2, symList, List.find?, List.isPrefixOf, h2]
theorem symAt2_first (l : List UInt8) (k : Nat) (_ : k < 20) (x : List UInt8) (hx : symList2[k]? = some x) (h : x.isPrefixOf l = true) (hn : ∀ (j : Nat) (y : List UInt8), j < k → symList2[j]? = some y → y.isPrefixOf l = false) : symAt l = x := by
  unfold symAt
  rw [← sym2_first]
  have e : symList2.find? (fun s => s.isPrefixOf l) = some x := by
    rw [List.find?_eq_some_iff_getElem]
    obtain ⟨hl, he⟩ := List.getElem?_eq_some_iff.1 hx
    refine ⟨h, k, hl, he, fun j hj => ?_⟩
    have := hn j _ hj (List.getElem?_eq_getElem (by omega))
    simpa using this
  rw [e]; rfl
theorem symAt2_none (l : List UInt8) (hn : ∀ (j : Nat) (y : List UInt8), symList2[j]? = some y → y.isPrefixOf l = false) : symAt l = [] := by
  unfold symAt
  rw [← sym2_first]
  have e : symList2.find? (fun s => s.isPrefixOf l) = none := by
    rw [List.find?_eq_none]
    intro x hx
    obtain ⟨j, hj, rfl⟩ := List.getElem_of_mem hx
    have := hn j _ (List.getElem?_eq_getElem hj)
    exact fun h2 => by rw [this] at h2; cases h2
  rw [e]; rfl
/-- a piece of the text against a symbol -/
theorem pre_iff (s : ByteArray) (p : Nat) (x : List UInt8) (_ : p + (strB x).size ≤ s.size) : ((s.extract p (p + (strB x).size)).toList == (strB x).toList) = x.isPrefixOf (s.data.toList.drop p) := by
  have hl : (strB x).size = x.length := by rw [← len_data]; rfl
  rw [ByteArray.toList_eq, ByteArray.toList_eq, data_strB, extract_take, data_strB, hl, Bool.eq_iff_iff, beq_iff_eq, List.isPrefixOf_iff_prefix, List.prefix_iff_eq_take]
  exact ⟨fun h => h.symm, fun h => h.symm⟩
theorem pre_short (s : ByteArray) (p : Nat) (x : List UInt8) (hps : p ≤ s.size) (hp : ¬ p + (strB x).size ≤ s.size) : x.isPrefixOf (s.data.toList.drop p) = false := by
  have hl : (strB x).size = x.length := by rw [← len_data]; rfl
  rw [Bool.eq_false_iff]
  intro h
  have := (List.isPrefixOf_iff_prefix.1 h).length_le
  rw [List.length_drop, len_data] at this
  omega
theorem sym2_small : ∀ (k : Nat) (x : List UInt8), symList2[k]? = some x → x.length ≤ 2 := by
  intro k x h
  have hall : symList2.all (fun x => decide (x.length ≤ 2)) = true := by decide
  have := List.all_eq_true.1 hall x (List.mem_of_getElem? h)
  simpa using this

set_option maxRecDepth 100000 in
set_option maxHeartbeats 2000000 in
theorem begins_any (s : ByteArray) (p : Nat) (w : World) (hs : s.size ≤ 281474976710656) (hp : p ≤ s.size) :
    Calls Tryd.prog 38 #[.string s, .int .i64 (p : Int)] w fun e w' => e = .returned (.string (strB (partOf (s.data.toList.drop p)))) ∧ Below w.heap.size w w' := by
  have HWL := Lib.hid (fun w => long_any s p w hs hp)
  have hwl : wordLen (s.data.toList.drop p) ≤ s.size - p := by
    have := wordLen_le (s.data.toList.drop p)
    rwa [List.length_drop, len_data] at this
  obtain ⟨n, hn⟩ : ∃ n, n = wordLen (s.data.toList.drop p) := ⟨_, rfl⟩
  rw [← hn] at HWL hwl
  by_cases h0 : 0 < n
  · have HR := Lib.hid (show s.extract p (p + n) = strB (partOf (s.data.toList.drop p)) by rw [extract_take]; unfold partOf; rw [← hn, if_neg (by omega)])
    clear hn
    go_enter Tryd.func38, Tryd.ntmps38
    go_wp2_with fail
    refine (HWL.out _).mono ?_; rintro e w' ⟨rfl, rfl⟩
    go_wp2_with fail
    go_ret
    exact ⟨by rw [← HR.out]; rfl, Below.refl _ _⟩
  · have hz : n = 0 := by omega
    subst hz
    have HP := Lib.hid (show partOf (s.data.toList.drop p) = symAt (s.data.toList.drop p) by unfold partOf; rw [← hn, if_pos rfl])
    clear hn hwl h0
    go_enter Tryd.func38, Tryd.ntmps38
    go_wp2_with fail
    refine (HWL.out _).mono ?_; rintro e w' ⟨rfl, rfl⟩
    go_wp2_with fail
    refine (symbols_any _).mono ?_; rintro e w1 ⟨A, c, rfl, hL, hb⟩
    have HL := Lib.hid hL
    have HB := Lib.hid hb
    clear hL hb HWL
    go_wp2_with fail
    go_loopw [7] (fun i wr => ∃ k : Nat, k ≤ 20 ∧ i = .int .i64 (k : Int) ∧ Hid (StrsAt wr A symList2) ∧ Hid (Below w.heap.size w wr) ∧ Hid (∀ (j : Nat) (y : List UInt8), j < k → symList2[j]? = some y → y.isPrefixOf (s.data.toList.drop p) = false)) (fun i _ => 20 - (intOf i).toNat)
    case atStart => exact ⟨0, by omega, rfl, HL, HB, fun j y h => by omega⟩
    case round =>
      clear HL HB
      obtain ⟨k, hk, rfl, HL, HB, HA⟩ := hrel
      by_cases hlt : k < 20
      · obtain ⟨x, hx⟩ : ∃ x, symList2[k]? = some x := ⟨symList2[k]'hlt, List.getElem?_eq_getElem hlt⟩
        obtain ⟨b, off, hA, hbl, hcells⟩ := HL.out
        subst hA
        have d0 := hcells k x hx
        have i0 : (0 : Int) ≤ (k : Int) := by omega
        have i1 : (k : Int) < 20 := by omega
        have hsm : (strB x).size ≤ 2 := by rw [← len_data, data_strB]; exact sym2_small k x hx
        clear hcells
        by_cases hfit : p + (strB x).size ≤ s.size
        · have hpre := pre_iff s p x hfit
          have hg : decide ((p : Int) + ((strB x).size : Int) ≤ (s.size : Int)) = true := decide_eq_true (by omega)
          by_cases he : x.isPrefixOf (s.data.toList.drop p) = true
          · have HR := Lib.hid (symAt2_first _ k hlt x hx he HA.out)
            rw [he] at hpre
            clear he HA hx
            go_wp2_with fail
            go_quiet (fail)
            go_wp2_with fail
            go_ret
            exact ⟨by rw [HP.out, HR.out]; rfl, HB.out.grown (grown_drewN _ nq none) HB.out.size (fun k e => by cases e)⟩
          · have HA2 : Hid (∀ (j : Nat) (y : List UInt8), j < k + 1 → symList2[j]? = some y → y.isPrefixOf (s.data.toList.drop p) = false) := fun j y hj hy => by
              by_cases e : j = k
              · subst e; rw [hx] at hy; injection hy with hy; subst hy; exact Bool.eq_false_iff.2 he
              · exact HA.out j y (by omega) hy
            rw [Bool.eq_false_iff.2 he] at hpre
            clear he HA hx
            go_wp2_with fail
            go_quiet (fail)
            go_wp2_with fail
            go_roundw
            case rel => exact ⟨k + 1, by omega, by go_num, HL.out.below (Below.grown (Below.refl _ _) (grown_drewN _ nq none) (Nat.le_refl _) (fun k e => by cases e)), HB.out.grown (grown_drewN _ nq none) HB.out.size (fun k e => by cases e), HA2⟩
            case measure => simp [intOf]; omega
        · have hg : decide ((p : Int) + ((strB x).size : Int) ≤ (s.size : Int)) = false := decide_eq_false (by omega)
          have HA2 : Hid (∀ (j : Nat) (y : List UInt8), j < k + 1 → symList2[j]? = some y → y.isPrefixOf (s.data.toList.drop p) = false) := fun j y hj hy => by
            by_cases e : j = k
            · subst e; rw [hx] at hy; injection hy with hy; subst hy; exact pre_short s p x hp hfit
            · exact HA.out j y (by omega) hy
          clear HA hx
          go_wp2_with fail
          go_quiet (fail)
          go_wp2_with fail
          go_roundw
          case rel => exact ⟨k + 1, by omega, by go_num, HL.out.below (Below.grown (Below.refl _ _) (grown_drewN _ nq none) (Nat.le_refl _) (fun k e => by cases e)), HB.out.grown (grown_drewN _ nq none) HB.out.size (fun k e => by cases e), HA2⟩
          case measure => simp [intOf]; omega
      · obtain rfl : k = 20 := by omega
        have HR := Lib.hid (symAt2_none (s.data.toList.drop p) (fun j y hy => HA.out j y (by have := (List.getElem?_eq_some_iff.1 hy).1; exact this) hy))
        clear HA
        go_wp2_with fail
        go_ret
        exact ⟨by rw [HP.out, HR.out]; rfl, HB.out⟩
end Go.Proofs.YtdnolbbkphgfiaaDoor
