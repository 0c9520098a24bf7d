/- Awake: some calls return what the document says of them. -/
import Derived.Test.YtdnolbbkphgfiaaDoorSame
namespace Go.Proofs.YtdnolbbkphgfiaaDoor
open Go.RowKit

theorem lex_text : lexS [102, 117, 110, 32, 120, 95, 49, 32, 45, 62, 32, 120, 95, 49, 32, 61, 61, 32, 49, 48, 32, 35, 32, 101, 110, 100] = (awakeToks, 0, 0) := by kernel_rfl
theorem lex_bad : lexS [120, 32, 48, 49] = ([], 2, 2) := by kernel_rfl
def j1 : List Rt := [⟨2, ⟨#[67, 111, 110, 115]⟩, 0, 0⟩, ⟨4, ⟨#[40]⟩, 0, 0⟩, ⟨3, ⟨#[]⟩, 7, 0⟩, ⟨4, ⟨#[41]⟩, 0, 0⟩]
def j2 : List Rt := [⟨0, ⟨#[108, 101, 116]⟩, 0, 0⟩]
theorem join_1 : joinS j1 = ([67, 111, 110, 115, 32, 40, 32, 55, 32, 41], 0) := by decide +kernel
theorem join_2 : joinS j2 = ([], 1) := by decide +kernel
theorem j1_ok : ∀ t ∈ j1, t.ok := by
  intro t ht
  simp only [j1, List.mem_cons, List.not_mem_nil, or_false] at ht
  rcases ht with rfl | rfl | rfl | rfl <;> exact ⟨by simp, by decide⟩
theorem j2_ok : ∀ t ∈ j2, t.ok := by
  intro t ht
  simp only [j2, List.mem_cons, List.not_mem_nil, or_false] at ht
  rcases ht with rfl; exact ⟨by simp, by decide⟩

theorem Lex_is (s : ByteArray) (xs : List Tk) (a b : Int) (w : World) (hY : Syms w) (hs : s.size ≤ maxLen) (h : lexS s.data.toList = (xs, a, b)) :
    Calls Tryd.prog 14 #[.string s] w fun e w' => ∃ A c, e = .returned (.tuple #[.slice A xs.length c, .int .i64 a, .int .i64 b]) ∧ Toks w' A (xs.map rt) ∧ Below w.heap.size w w' := by
  have := Lex_out s w hY hs
  rw [h] at this
  exact this
theorem Join_is (A : Option Addr) (c : Nat) (ts : List Rt) (l : List UInt8) (x : Int) (w : World) (hT : Toks w A ts) (hE : Env w) (hok : ∀ t ∈ ts, t.ok) (hsz : ts.length * 40 ≤ 140737488355328) (h : joinS ts = (l, x)) (s : ByteArray) (hs : strB l = s) :
    Calls Tryd.prog 18 #[.slice A ts.length c] w fun e w' => e = .returned (.tuple #[.string s, .int .i64 x]) ∧ Below w.heap.size w w' := by
  have := Join_any A c ts w hT hE hok hsz
  rw [h] at this
  rw [← hs]
  exact this
theorem Same_awake (A B : Option Addr) (c d : Nat) (w : World) (hA : Toks w A (awakeToks.map rt)) (hB : Toks w B (awakeToks.map rt)) :
    Calls Tryd.prog 16 #[.slice A awakeToks.length c, .slice B 6 d] w fun e w' => e = .returned (.bool true) ∧ Below w.heap.size w w' := Same_eq A B c d (awakeToks.map rt) w hA hB (by decide)
theorem where_4 : WhereRes ⟨#[97, 98, 10, 99]⟩ 4 = .returned (.tuple #[.int .i64 2, .int .i64 2, .int .i64 0]) := by
  unfold WhereRes
  rw [if_neg (by decide)]
  have : plc ((⟨#[97, 98, 10, 99]⟩ : ByteArray).data.toList.take (4 : Int).toNat) = (2, 2) := by decide +kernel
  rw [this]
theorem where_5 : WhereRes ⟨#[97, 98, 10, 99]⟩ 5 = .returned (.tuple #[.int .i64 0, .int .i64 0, .int .i64 1]) := by
  unfold WhereRes
  rw [if_pos (by decide)]
theorem wrap_1 : wrapI 1000000000 = -999999999 := by decide +kernel
theorem itoa_70 : strB (Lib.itoa (-70)) = ⟨#[45, 55, 48]⟩ := by decide +kernel

def Fin (w : World) (e : Ending) (w' : World) : Prop := e = .returned (.bool true) ∧ Below w.heap.size w w'

set_option maxRecDepth 100000 in
set_option maxHeartbeats 4000000 in
theorem Awake_any (w : World) (hE : Env w) : Calls Tryd.prog 17 #[] w (Fin w) := by
  have HE := Lib.hid hE
  have hpos := hE.lt
  clear hE
  go_enter Tryd.func17, Tryd.ntmps17
  go_wp2_with fail
  refine (Lex_is ⟨#[102, 117, 110, 32, 120, 95, 49, 32, 45, 62, 32, 120, 95, 49, 32, 61, 61, 32, 49, 48, 32, 35, 32, 101, 110, 100]⟩ awakeToks 0 0 w HE.out.syms (by decide) lex_text).mono ?_
  rintro e w1 ⟨A, c, rfl, hT, hb⟩
  have HT1 := Lib.hid hT
  have HB1 := Lib.hid hb
  have HE1 := Lib.hid (HE.out.below hb)
  clear hT hb
  go_wp2_with fail
  refine (Lex_is ⟨#[120, 32, 48, 49]⟩ [] 2 2 w1 HE1.out.syms (by decide) lex_bad).mono ?_
  rintro e w2 ⟨A2, c2, rfl, _, hb⟩
  have HT2 := Lib.hid (HT1.out.below hb)
  have HB2 := Lib.hid (below_call HB1.out hb)
  have HE2 := Lib.hid (HE1.out.below hb)
  clear hb HT1 HB1 HE1
  go_wp2_with fail
  refine (Join_is _ _ j1 _ _ _ (toks_lit w2 j1 43) (HE2.out.grown (World.grownBy_alloc w2 _ none) (by simp) (by simp)) j1_ok (by decide) join_1 ⟨#[67, 111, 110, 115, 32, 40, 32, 55, 32, 41]⟩ rfl).mono ?_
  rintro e w3 ⟨rfl, hb⟩
  have hg3 := (grown_trans (World.grownBy_alloc w2 (.cells (rflat j1).toArray 43) none) (grown_below hb none))
  have HT3 := Lib.hid (HT2.out.below ⟨hg3.os, hg3.tape, hg3.output, hg3.size, fun k hk => hg3.block k hk (by simp)⟩)
  have HB3 := Lib.hid (HB2.out.grown hg3 HB2.out.size (fun k e => by cases e))
  have HE3 := Lib.hid (HE2.out.grown hg3 (by simp) (by simp))
  clear hb hg3 HT2 HB2 HE2
  go_wp2_with fail
  refine (Join_is _ _ j2 _ _ _ (toks_lit w3 j2 43) (HE3.out.grown (World.grownBy_alloc w3 _ none) (by simp) (by simp)) j2_ok (by decide) join_2 ⟨#[]⟩ rfl).mono ?_
  rintro e w4 ⟨rfl, hb⟩
  have hg4 := (grown_trans (World.grownBy_alloc w3 (.cells (rflat j2).toArray 43) none) (grown_below hb none))
  have HT4 := Lib.hid (HT3.out.below ⟨hg4.os, hg4.tape, hg4.output, hg4.size, fun k hk => hg4.block k hk (by simp)⟩)
  have HB4 := Lib.hid (HB3.out.grown hg4 HB3.out.size (fun k e => by cases e))
  have HE4 := Lib.hid (HE3.out.grown hg4 (by simp) (by simp))
  clear hb hg4 HT3 HB3 HE3
  go_wp2_with fail
  refine (Where_any ⟨#[97, 98, 10, 99]⟩ 4 w4 (by decide) (by decide)).mono ?_
  rintro e w' ⟨he, rfl⟩
  rw [where_4] at he
  subst he
  go_wp2_with fail
  refine (Where_any ⟨#[97, 98, 10, 99]⟩ 5 w4 (by decide) (by decide)).mono ?_
  rintro e w' ⟨he, rfl⟩
  rw [where_5] at he
  subst he
  go_wp2_with fail
  refine (Tokens_any w4).mono ?_
  rintro e w5 ⟨B, d, rfl, hT, hb⟩
  have HT5 := Lib.hid (HT4.out.below hb)
  have HB5 := Lib.hid (below_call HB4.out hb)
  have HE5 := Lib.hid (HE4.out.below hb)
  have HU5 := Lib.hid hT
  clear hb hT HT4 HB4 HE4
  go_wp2_with fail
  refine (Same_awake _ _ _ _ w5 HT5.out HU5.out).mono ?_
  rintro e w6 ⟨rfl, hb⟩
  have HB6 := Lib.hid (below_call HB5.out hb)
  have HE6 := Lib.hid (HE5.out.below hb)
  clear hb HB5 HE5 HT5 HU5
  go_wp2_with fail
  refine (Wrap_any 1000000000 w6).mono ?_
  rintro e w' ⟨he, rfl⟩
  rw [wrap_1] at he
  subst he
  go_wp2_with fail
  refine (Digits_any (-70) w6 (by decide) HE6.out.2).mono ?_
  rintro e w7 ⟨he, hb⟩
  rw [itoa_70] at he
  subst he
  have HB7 := Lib.hid (below_call HB6.out hb)
  clear hb HB6 HE6
  go_wp2_with fail
  refine (IsVar_any ⟨#[95]⟩ w7 (by decide)).mono ?_
  rintro e w8 ⟨he, hb⟩
  rw [show isV (⟨#[95]⟩ : ByteArray).data.toList = true by decide +kernel] at he
  subst he
  have HB8 := Lib.hid (below_call HB7.out hb)
  clear hb HB7
  go_wp2_with fail
  refine (IsVar_any ⟨#[105, 110]⟩ w8 (by decide)).mono ?_
  rintro e w9 ⟨he, hb⟩
  rw [show isV (⟨#[105, 110]⟩ : ByteArray).data.toList = false by decide +kernel] at he
  subst he
  have HB9 := Lib.hid (below_call HB8.out hb)
  clear hb HB8
  go_wp2_with fail
  refine (IsUpper_any ⟨#[82, 101, 116, 117, 114, 110]⟩ w9 (by decide)).mono ?_
  rintro e w10 ⟨he, hb⟩
  rw [show isNm 2 (⟨#[82, 101, 116, 117, 114, 110]⟩ : ByteArray).data.toList = true by decide +kernel] at he
  subst he
  have HB10 := Lib.hid (below_call HB9.out hb)
  clear hb HB9
  go_wp2_with fail
  refine (Keyword_any ⟨#[114, 101, 116, 117, 114, 110]⟩ w10 (by decide)).mono ?_
  rintro e w11 ⟨he, hb⟩
  rw [show isKw (⟨#[114, 101, 116, 117, 114, 110]⟩ : ByteArray).data.toList = true by decide +kernel] at he
  subst he
  have HB11 := Lib.hid (below_call HB10.out hb)
  clear hb HB10
  go_wp2_with fail
  refine (Keyword_any ⟨#[120]⟩ w11 (by decide)).mono ?_
  rintro e w12 ⟨he, hb⟩
  rw [show isKw (⟨#[120]⟩ : ByteArray).data.toList = false by decide +kernel] at he
  subst he
  have HB12 := Lib.hid (below_call HB11.out hb)
  clear hb HB11
  go_wp2_with fail
  go_ret
  exact ⟨rfl, HB12.out⟩
end Go.Proofs.YtdnolbbkphgfiaaDoor
