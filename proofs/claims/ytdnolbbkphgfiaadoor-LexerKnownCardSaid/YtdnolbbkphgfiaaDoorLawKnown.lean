/- The law LexerKnown, walked. -/
import Derived.Test.YtdnolbbkphgfiaaDoorRefA
import Derived.Test.YtdnolbbkphgfiaaDoorAwake
namespace Go.Proofs.YtdnolbbkphgfiaaDoor
open Go.RowKit

def knownToks : List Tk := [⟨0, [97], 0, 0⟩, ⟨4, [45, 62], 0, 2⟩, ⟨0, [98], 0, 4⟩]
def badL : List (List UInt8) := [[120, 32, 49, 97], [120, 32, 48, 49], [120, 32, 36], [120, 32, 49, 48, 48, 48, 48, 48, 48, 48, 48, 48], [120, 32, 97, 98, 99, 100, 101, 102, 103, 104, 105, 106, 107, 108, 109]]
theorem known_lex0 : lexS [35] = ([], 0, 0) := by kernel_rfl
theorem known_lex1 : lexS [97, 32, 45, 62, 98] = (knownToks, 0, 0) := by kernel_rfl
theorem bad_lex : ∀ (k : Nat) (l : List UInt8), badL[k]? = some l → lexS l = ([], 2, 2) ∧ l.length ≤ 20
  | 0, l, h => by obtain rfl := Option.some.inj h; exact ⟨by kernel_rfl, by decide⟩
  | 1, l, h => by obtain rfl := Option.some.inj h; exact ⟨by kernel_rfl, by decide⟩
  | 2, l, h => by obtain rfl := Option.some.inj h; exact ⟨by kernel_rfl, by decide⟩
  | 3, l, h => by obtain rfl := Option.some.inj h; exact ⟨by kernel_rfl, by decide⟩
  | 4, l, h => by obtain rfl := Option.some.inj h; exact ⟨by kernel_rfl, by decide⟩
  | k + 5, l, h => by simp [badL] at h
def j3 : List Rt := [⟨3, ⟨#[]⟩, 1000000000, 0⟩]
def j4 : List Rt := [⟨3, ⟨#[49]⟩, 1, 0⟩]
theorem join_3 : joinS j3 = ([], 1) := by decide +kernel
theorem join_4 : joinS j4 = ([], 1) := by decide +kernel
theorem j3_ok : ∀ t ∈ j3, t.ok := by
  intro t ht
  simp only [j3, List.mem_cons, List.not_mem_nil, or_false] at ht
  rcases ht with rfl; exact ⟨by simp, by decide⟩
theorem j4_ok : ∀ t ∈ j4, t.ok := by
  intro t ht
  simp only [j4, List.mem_cons, List.not_mem_nil, or_false] at ht
  rcases ht with rfl; exact ⟨by simp, by decide⟩
theorem where_2 : WhereRes ⟨#[97, 98, 10, 99]⟩ 2 = .returned (.tuple #[.int .i64 1, .int .i64 3, .int .i64 0]) := by
  unfold WhereRes
  rw [if_neg (by decide)]
  have : plc ((⟨#[97, 98, 10, 99]⟩ : ByteArray).data.toList.take (2 : Int).toNat) = (1, 3) := by decide +kernel
  rw [this]
theorem wrap_2 : wrapI 1999999998 = -1 := by decide +kernel
theorem itoa_0 : strB (Lib.itoa 0) = ⟨#[48]⟩ := by decide +kernel
theorem Same_known (A B : Option Addr) (c d : Nat) (w : World) (hA : Toks w A (knownToks.map rt)) (hB : Toks w B (knownToks.map rt)) :
    Calls Tryd.prog 16 #[.slice A knownToks.length c, .slice B 3 d] w fun e w' => e = .returned (.bool true) ∧ Below w.heap.size w w' := Same_eq A B c d (knownToks.map rt) w hA hB (by decide)

set_option maxRecDepth 100000 in
set_option maxHeartbeats 4000000 in
theorem known_walk (w : World) (hE : Env w) : Calls Tryd.prog 8 #[] w (Fin w) := by
  have HE := Lib.hid hE
  have hpos := hE.lt
  clear hE
  go_enter Tryd.func8, Tryd.ntmps8
  go_wp2_with fail
  refine (Lex_is ⟨#[35]⟩ [] 0 0 w HE.out.syms (by decide) known_lex0).mono ?_
  rintro e w1 ⟨A0, c0, rfl, _, hb⟩
  have HB1 := Lib.hid hb
  have HE1 := Lib.hid (HE.out.below hb)
  clear hb
  go_wp2_with fail
  refine (Lex_is ⟨#[97, 32, 45, 62, 98]⟩ knownToks 0 0 w1 HE1.out.syms (by decide) known_lex1).mono ?_
  rintro e w2 ⟨A, c, rfl, hT, hb⟩
  have HT2 := Lib.hid hT
  have HB2 := Lib.hid (below_call HB1.out hb)
  have HE2 := Lib.hid (HE1.out.below hb)
  clear hb hT HB1 HE1
  go_wp2_with fail
  refine (Where_any ⟨#[97, 98, 10, 99]⟩ 2 w2 (by decide) (by decide)).mono ?_
  rintro e w' ⟨he, rfl⟩
  rw [where_2] at he
  subst he
  go_wp2_with fail
  refine (Join_is _ _ j3 _ _ _ (toks_lit w2 j3 43) (HE2.out.grown (World.grownBy_alloc w2 _ none) (by simp) (by simp)) j3_ok (by decide) join_3 ⟨#[]⟩ rfl).mono ?_
  rintro e w3 ⟨rfl, hb⟩
  have hg3 := (grown_trans (World.grownBy_alloc w2 (.cells (rflat j3).toArray 43) none) (grown_below hb none))
  have HT3 := Lib.hid (HT2.out.below ⟨hg3.os, hg3.tape, hg3.output, hg3.size, fun k hk => hg3.block k hk (by simp)⟩)
  have HB3 := Lib.hid (HB2.out.grown hg3 HB2.out.size (fun k e => by cases e))
  have HE3 := Lib.hid (HE2.out.grown hg3 (by simp) (by simp))
  clear hb hg3 HT2 HB2 HE2
  go_wp2_with fail
  refine (Join_is _ _ j4 _ _ _ (toks_lit w3 j4 43) (HE3.out.grown (World.grownBy_alloc w3 _ none) (by simp) (by simp)) j4_ok (by decide) join_4 ⟨#[]⟩ rfl).mono ?_
  rintro e w4 ⟨rfl, hb⟩
  have hg4 := (grown_trans (World.grownBy_alloc w3 (.cells (rflat j4).toArray 43) none) (grown_below hb none))
  have HT4 := Lib.hid (HT3.out.below ⟨hg4.os, hg4.tape, hg4.output, hg4.size, fun k hk => hg4.block k hk (by simp)⟩)
  have HB4 := Lib.hid (HB3.out.grown hg4 HB3.out.size (fun k e => by cases e))
  have HE4 := Lib.hid (HE3.out.grown hg4 (by simp) (by simp))
  clear hb hg4 HT3 HB3 HE3
  have HL := Lib.hid (strs_lit w4 badL 9)
  go_wp2_with fail
  go_loopw [15] (fun i wr => ∃ k : Nat, k ≤ 5 ∧ i = .int .i64 (k : Int) ∧ Hid (StrsAt wr (some ⟨w4.heap.size, 0, none⟩) badL) ∧ Hid (Toks wr A (knownToks.map rt)) ∧ Hid (Env wr) ∧ Hid (Below w.heap.size w wr)) (fun i _ => 5 - (intOf i).toNat)
  case atStart => exact ⟨0, by omega, rfl, HL.out, HT4.out.below ((Below.refl _ _).alloc (Nat.le_refl _) _), HE4.out.grown (World.grownBy_alloc w4 _ none) (by simp) (by simp), HB4.out.alloc HB4.out.size _⟩
  case round =>
    clear HL HT4 HE4 HB4
    obtain ⟨k, hk, rfl, HL, HT, HE5, HB⟩ := hrel
    by_cases hlt : k < 5
    · obtain ⟨l, hl⟩ : ∃ l, badL[k]? = some l := ⟨badL[k]'hlt, List.getElem?_eq_getElem hlt⟩
      obtain ⟨b, off, hbo, _, hcells⟩ := HL.out
      have d0 := hcells k l hl
      have HX := Lib.hid (bad_lex k l hl)
      clear hcells hl
      injection hbo with hbo; injection hbo with hbo1 hbo2
      subst hbo1; subst hbo2
      have d1 := d0
      rw [Nat.zero_add] at d1
      have i0 : (0 : Int) ≤ (k : Int) := by omega
      have i1 : (k : Int) < 5 := by omega
      go_wp2_with fail
      refine (Lex_is (strB l) [] 2 2 wr HE5.out.syms (by rw [← len_data, data_strB]; have := HX.out.2; unfold maxLen; omega) HX.out.1).mono ?_
      rintro e w6 ⟨A1, c1, rfl, _, hb⟩
      have HL6 := Lib.hid (HL.out.below hb)
      have HT6 := Lib.hid (HT.out.below hb)
      have HE6 := Lib.hid (HE5.out.below hb)
      have HB6 := Lib.hid (below_call HB.out hb)
      clear hb d0 d1 HL HT HE5 HB
      go_wp2_with fail
      go_roundw
      case rel => exact ⟨k + 1, by omega, by go_num, HL6.out, HT6.out, HE6.out, HB6.out⟩
      case measure => simp [intOf]; omega
    · obtain rfl : k = 5 := by omega
      clear HL
      have HW := Lib.hid (toks_lit wr (knownToks.map rt) 43)
      go_wp2_with fail
      refine (Same_known _ _ _ _ _ (HT.out.below ((Below.refl _ _).alloc (Nat.le_refl _) _)) HW.out).mono ?_
      rintro e w6 ⟨rfl, hb⟩
      have hg6 := (grown_trans (World.grownBy_alloc wr (.cells (rflat (knownToks.map rt)).toArray 43) none) (grown_below hb none))
      have HB6 := Lib.hid (HB.out.grown hg6 HB.out.size (fun k e => by cases e))
      have HE6 := Lib.hid (HE5.out.grown hg6 (by simp) (by simp))
      clear hb hg6 HW HT HE5 HB
      go_wp2_with fail
      refine (Wrap_any 1999999998 w6).mono ?_
      rintro e w' ⟨he, rfl⟩
      rw [wrap_2] at he
      subst he
      go_wp2_with fail
      refine (Digits_any 0 w6 (by decide) HE6.out.2).mono ?_
      rintro e w7 ⟨he, hb⟩
      rw [itoa_0] at he
      subst he
      have HB7 := Lib.hid (below_call HB6.out hb)
      have HE7 := Lib.hid (HE6.out.below hb)
      clear hb HB6 HE6
      go_wp2_with fail
      refine (Awake_any w7 HE7.out).mono ?_
      rintro e w8 ⟨rfl, hb⟩
      have HB8 := Lib.hid (below_call HB7.out hb)
      clear hb HB7
      go_wp2_with fail
      go_ret
      exact ⟨rfl, HB8.out⟩
end Go.Proofs.YtdnolbbkphgfiaaDoor
