/- integer: the integer whose digits a string is. -/
import Derived.Test.YtdnolbbkphgfiaaDoorSpace
namespace Go.Proofs.YtdnolbbkphgfiaaDoor
open Go.RowKit

theorem kindI_3 {c : Int} (h : kindI c = 3) : 48 ≤ c ∧ c ≤ 57 := by
  unfold kindI at h
  repeat' split at h
  all_goals omega
theorem kindI_not3 {c : Int} (h : ¬ kindI c = 3) : c < 48 ∨ 57 < c := by
  unfold kindI at h
  repeat' split at h
  all_goals omega
theorem go_digit {n : Int} {c : UInt8} {r : List UInt8} (h : kindI c.toNat = 3) (hn : 10 * n + ((c.toNat : Int) - 48) ≤ 999999999) : intGo n (c :: r) = intGo (10 * n + ((c.toNat : Int) - 48)) r := by
  simp only [intGo]; rw [if_pos (show kb c = 3 from h), if_neg (by omega)]
theorem go_large {n : Int} {c : UInt8} {r : List UInt8} (h : kindI c.toNat = 3) (hn : 999999999 < 10 * n + ((c.toNat : Int) - 48)) : intGo n (c :: r) = none := by
  simp only [intGo]; rw [if_pos (show kb c = 3 from h), if_pos hn]
theorem go_other {n : Int} {c : UInt8} {r : List UInt8} (h : ¬ kindI c.toNat = 3) : intGo n (c :: r) = none := by
  simp only [intGo]; rw [if_neg (show ¬ kb c = 3 from h)]

def IntRes (o : Option Int) : Ending := .returned (.tuple #[.int .i64 (o.getD 0), .bool o.isSome])
theorem IntRes_none {o : Option Int} (h : o = none) : Ending.returned (.tuple #[.int .i64 0, .bool false]) = IntRes o := by rw [h]; rfl
theorem IntRes_some {o : Option Int} {n : Int} (h : o = some n) : Ending.returned (.tuple #[.int .i64 n, .bool true]) = IntRes o := by rw [h]; rfl

set_option maxHeartbeats 1000000 in
theorem integer_any (s : ByteArray) (w : World) (hs : s.size ≤ maxLen) :
    Calls Tryd.prog 69 #[.string s] w fun e w' => e = IntRes (integerS s.data.toList) ∧ Below w.heap.size w w' := by
  unfold maxLen at hs
  by_cases h0 : s.size = 0
  · have he1 := nil_toList h0
    have he2 : s.toList.isEmpty = true := by rw [he1]; rfl
    have HR := Lib.hid (show integerS s.data.toList = none by rw [← ByteArray.toList_eq, he1]; rfl)
    clear he1 h0
    go_enter Tryd.func69, Tryd.ntmps69
    go_wp2
    go_ret2
    exact ⟨IntRes_none HR.out, Below.refl _ _⟩
  have he2 := cons_toList h0
  have h00 : 0 < s.size := by omega
  have g48 : (((s[0]'h00).toNat : Int) == 48) = (s[0] == 48) := beq_u8 (by decide)
  have hd0 : s.data.toList = s[0] :: s.data.toList.drop 1 := drop_cons s 0 h00
  by_cases hz : 1 < s.size ∧ s[0] = 48
  · have HR := Lib.hid (show integerS s.data.toList = none by
      rw [hd0]; simp only [integerS]; rw [if_pos]; simp only [Bool.and_eq_true, decide_eq_true_eq, beq_iff_eq]; exact ⟨by rw [List.length_drop, len_data]; omega, hz.2⟩)
    have b48 : (((s[0]'h00).toNat : Int) == 48) = true := by rw [g48, hz.2]; rfl
    have h1 := hz.1
    clear hz g48 hd0 h0
    go_enter Tryd.func69, Tryd.ntmps69
    go_wp2
    go_ret2
    exact ⟨IntRes_none HR.out, Below.refl _ _⟩
  have HI := Lib.hid (show integerS s.data.toList = intGo 0 s.data.toList by
    rw [hd0]; simp only [integerS]; rw [if_neg]
    simp only [Bool.and_eq_true, decide_eq_true_eq, beq_iff_eq]; rw [List.length_drop, len_data]; intro h; exact hz ⟨by omega, h.2⟩)
  clear hd0 h0
  have main : ∀ (Z : (s.size ≤ 1) ∨ ((((s[0]'h00).toNat : Int) == 48) = false ∧ 1 < s.size)), Calls Tryd.prog 69 #[.string s] w fun e w' => e = IntRes (integerS s.data.toList) ∧ Below w.heap.size w w' := by
    intro Z
    rcases Z with Z | ⟨Z, Z1⟩
    all_goals
      clear g48 hz
      go_enter Tryd.func69, Tryd.ntmps69
      go_wp2
      go_loopw [2] (fun v wr => ∃ (pos : Nat) (n : Int), wr.heap[w.heap.size]? = some (.stringIter s pos) ∧ pos ≤ s.size ∧ Below w.heap.size w wr ∧ v = .int .i64 n ∧ 0 ≤ n ∧ n ≤ 999999999 ∧ Hid (integerS s.data.toList = intGo n (s.data.toList.drop pos))) (fun _ wr => s.size - wr.iterPos w.heap.size)
      case atStart => exact ⟨0, 0, World.iter_heap w s 0, by omega, (Below.refl _ _).alloc (Nat.le_refl _) _, rfl, by omega, by omega, HI⟩
      case round =>
        clear HI
        obtain ⟨pos, n, hit, hle, hbw, rfl, hn0, hn1, HA⟩ := hrel
        have hpos0 := Lib.hid (iterPos_of hit)
        by_cases hp : pos < s.size
        · have hd := Lib.hid (drop_cons s pos hp)
          by_cases ha : (s[pos]'hp).toNat < 128
          · have hnx : ∀ ty, (Instr.next (.pointer (some ⟨w.heap.size, 0, none⟩)) true ty).run Tryd.prog wr = _ := fun ty => Lib.run_next_ascii_at wr w.heap.size s pos ty hit hp ha
            have hit2 := Lib.iterAt_heap wr w.heap.size s pos (pos + 1) hit
            have hbw2 := Lib.below_iterAt hbw (k := w.heap.size) (Nat.le_refl _) s (pos + 1)
            obtain ⟨W1, hW1⟩ : ∃ W1, W1 = wr.iterAt w.heap.size s (pos + 1) := ⟨_, rfl⟩
            rw [← hW1] at hnx hit2 hbw2
            clear hW1 hit hbw
            by_cases hk3 : kindI ((s[pos]'hp).toNat : Int) = 3
            · have hc := kindI_3 hk3
              have hk : (kindI ((s[pos]'hp).toNat : Int) != 3) = false := by rw [hk3]; rfl
              by_cases hlg : 999999999 < 10 * n + (((s[pos]'hp).toNat : Int) - 48)
              · have HR := Lib.hid (show integerS s.data.toList = none by rw [HA.out, hd.out]; exact go_large hk3 hlg)
                clear hk3 HA hd
                go_wp2_with (go_at_call 66; refine (kindOf_any _ _).mono ?_; rintro e w' ⟨rfl, rfl⟩)
                go_ret2
                exact ⟨IntRes_none HR.out, hbw2⟩
              · have HA2 : Hid (integerS s.data.toList = intGo (10 * n + (((s[pos]'hp).toNat : Int) - 48)) (s.data.toList.drop (pos + 1))) := by
                  show _ = _; rw [HA.out, hd.out]; exact go_digit hk3 (by omega)
                clear hk3 HA hd
                go_wp2_with (go_at_call 66; refine (kindOf_any _ _).mono ?_; rintro e w' ⟨rfl, rfl⟩)
                go_roundw
                case rel => exact ⟨pos + 1, _, hit2, by omega, hbw2, rfl, by omega, by omega, HA2⟩
                case measure => rw [iterPos_of hit2, hpos0.out]; omega
            · have hk : (kindI ((s[pos]'hp).toNat : Int) != 3) = true := by simpa using hk3
              have HR := Lib.hid (show integerS s.data.toList = none by rw [HA.out, hd.out]; exact go_other hk3)
              clear hk3 HA hd
              go_wp2_with (go_at_call 66; refine (kindOf_any _ _).mono ?_; rintro e w' ⟨rfl, rfl⟩)
              go_ret2
              exact ⟨IntRes_none HR.out, hbw2⟩
          · have hdh := decode_hi s pos hp (by omega)
            have hk : (kindI ((Utf8.decode s pos).1 : Int) != 3) = true := by rw [kindI_hi _ (by omega)]; rfl
            have hnx : ∀ ty, (Instr.next (.pointer (some ⟨w.heap.size, 0, none⟩)) true ty).run Tryd.prog wr = _ := fun ty => Lib.run_next_any_at wr w.heap.size s pos ty hit hp
            have HR := Lib.hid (show integerS s.data.toList = none by
              rw [HA.out, hd.out]; exact go_other (fun h => by have := kindI_3 h; omega))
            have hbw2 := Lib.below_iterAt hbw (k := w.heap.size) (Nat.le_refl _) s (pos + (Utf8.decode s pos).2)
            obtain ⟨W1, hW1⟩ : ∃ W1, W1 = wr.iterAt w.heap.size s (pos + (Utf8.decode s pos).2) := ⟨_, rfl⟩
            rw [← hW1] at hnx hbw2
            clear hW1 hit hbw hpos0 HA hd
            go_wp2_with (go_at_call 66; refine (kindOf_any _ _).mono ?_; rintro e w' ⟨rfl, rfl⟩)
            go_ret2
            exact ⟨IntRes_none HR.out, hbw2⟩
        · have hnx : ∀ ty, (Instr.next (.pointer (some ⟨w.heap.size, 0, none⟩)) true ty).run Tryd.prog wr = _ := fun ty => Lib.run_next_end_at wr w.heap.size s pos ty hit hp
          have HR := Lib.hid (show integerS s.data.toList = some n by rw [HA.out, drop_end s pos hp]; rfl)
          clear hit hpos0 HA
          go_wp2
          go_ret2
          exact ⟨IntRes_some HR.out, hbw⟩
  apply main
  by_cases h1 : 1 < s.size
  · exact .inr ⟨by rw [g48]; simpa using fun e => hz ⟨h1, e⟩, h1⟩
  · exact .inl (by omega)
end Go.Proofs.YtdnolbbkphgfiaaDoor
