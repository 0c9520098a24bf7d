/- Texts put together by program: Frame Laid CSm. -/
import Derived.Test.YtndgoefhhjcllaaGreatDoorMgF
import Derived.Test.YtndgoefhhjcllaaGreatDoorTie
import Derived.Test.YtndgoefhhjcllaaGreatDoorCards
import Derived.ProofKit
import Derived.LaidMore
import Derived.OpenShut
import Derived.Stop.Joined
import Derived.SevenTiedAt
import Derived.Lib.LaidTab
import Derived.Test.YtndgoefhhjcllaaGreatDoorMgR
import Derived.SizedLaws
import Derived.Carry
/- The frame of the laws' cards: what the laid variables give a walk; the witness's world. -/
namespace Go.Proofs.YtndgoefhhjcllaaGreatDoor
open Go.ChangeShapes Go.WideShapes Go.ChangeAt Go.WideMaps Go.WideElems Go.RowKit

theorem own : ownKnob Tryz.prog.godebug = none := by kernel_rfl
abbrev laidAll : List (String × DataW Unit) := [("math/bits.deBruijn32tab", Rows.laid_math_bits_deBruijn32tab), ("math/bits.deBruijn64tab", Rows.laid_math_bits_deBruijn64tab), ("internal/strconv.uint64pow10", Rows.laid_internal_strconv_uint64pow10), ("reprise/lexer.symbols", Rows.laid_reprise_lexer_symbols), ("reprise/syntax.exprUses", Rows.laid_reprise_syntax_exprUses)]

theorem door_met (os : Os) (args : Array Value) : laidMetH Tryz.prog laidAll ((World.doorLaid Tryz.prog 400 os).forCall (fun _ _ => 0) ⟨#[], args, []⟩).memory :=
  laidMetH_of_parts3 (fuel := 8) (laidMet_of_run' 8 (by kernel_rfl) (by kernel_rfl)) (by kernel_rfl) (by kernel_rfl)

end Go.Proofs.YtndgoefhhjcllaaGreatDoor
/- What the laid variables give a walk. -/
namespace Go.Proofs.YtndgoefhhjcllaaGreatDoor
open Go.ChangeShapes Go.WideShapes Go.ChangeAt Go.WideMaps Go.WideElems Go.RowKit

theorem gSym : Tryz.prog.globalNamed "reprise/lexer.symbols" = some 2 := by kernel_rfl
theorem gTab : Tryz.prog.globalNamed "internal/strconv.uint64pow10" = some 4 := by kernel_rfl
theorem gUses : Tryz.prog.globalNamed "reprise/syntax.exprUses" = some 1 := by kernel_rfl
theorem tSym : (Tryz.prog.globals[2]?).map (·.type) = some 224 := by kernel_rfl
theorem tTab : (Tryz.prog.globals[4]?).map (·.type) = some 244 := by kernel_rfl
theorem tUses : (Tryz.prog.globals[1]?).map (·.type) = some 168 := by kernel_rfl

set_option maxRecDepth 100000 in
theorem cells_of_strs {H : Type} {enc : TypeId × Value → H} {w : World} {base : Nat} {sp : Nat → Bool} {held : Bool} {fuel : Nat} {cs : List Value} {p : List MemPlace}
    (h : DataW.trod enc Tryz.prog w base sp held fuel 224 cs = some (.agg (symList.map fun l => .lit (.string l)), p)) : cs = symList.map fun l => Value.string (strB l) := by
  obtain ⟨xs, m, _, hx, hlen, hn, hel⟩ := DataW.trod_array Tryz.underlying224 h
  have c9 : Tryz.prog.cellsOf 9 = 1 := by kernel_rfl
  have c83 : Tryz.prog.cellsOf 224 = 20 := by kernel_rfl
  rw [c83] at hlen
  simp only [Prod.mk.injEq, DataW.agg.injEq] at hx
  obtain ⟨hx1, _⟩ := hx
  apply List.ext_getElem?
  intro i
  by_cases hi : i < 20
  · have hsi : i < symList.length := hi
    have h1 := hel i hi
    rw [c9, Nat.mul_one] at h1
    have hci : i < cs.length := by omega
    rw [List.drop_eq_getElem_cons hci] at h1
    have hxi : i < xs.length := by omega
    rw [List.getElem?_eq_getElem hxi] at h1
    obtain ⟨s, e1, e2, _⟩ := DataW.trod_string Tryz.underlying9 (show DataW.trod enc Tryz.prog w base sp held m 9 [cs[i]] = some xs[i] from h1)
    have h3 := congrArg (fun l => l[i]?) hx1
    simp only [List.getElem?_map, List.getElem?_eq_getElem hsi, List.getElem?_eq_getElem hxi, Option.map_some, Option.some.injEq] at h3
    rw [e2] at h3
    rw [List.getElem?_eq_getElem hci, List.getElem?_map, List.getElem?_eq_getElem hsi, Option.map_some]
    simp only [List.cons.injEq] at e1
    rw [e1.1]
    generalize symList[i] = y at h3 ⊢
    have h4 : s.data.toList = y := by simp only [DataW.lit.injEq, Lit.string.injEq] at h3; exact h3.symm
    rw [← h4, strB_data]
  · rw [List.getElem?_eq_none (by omega), List.getElem?_eq_none (by rw [List.length_map]; show 20 ≤ i; omega)]
theorem heap_of_var {W : World} {n : String} {g : Nat} {cs : Array Value} (hg : Tryz.prog.globalNamed n = some g) (h : W.var? Tryz.prog n = some cs) : ∃ t fr, W.heap[g]? = some (.cells cs t fr) := by
  simp only [World.var?, hg, Option.bind_some] at h
  split at h
  · injection h with h; subst h; exact ⟨_, _, ‹_›⟩
  · cases h
theorem trod_u8 {H : Type} {enc : TypeId × Value → H} {w : World} {base : Nat} {sp : Nat → Bool} {held : Bool} {f : Nat} {t : TypeId} {c : Value} {n : Int} {y : DataW H × List MemPlace} (ht : Tryz.prog.underlying t = some (.int .u8)) (h : DataW.trod enc Tryz.prog w base sp held f t [c] = some y) (hy : y.1 = .lit (.int .u8 n)) : c = .int .u8 n := by
  obtain ⟨m, e, rfl, _⟩ := DataW.trod_int ht h
  simp only [List.cons.injEq, and_true] at e
  simp only [DataW.lit.injEq, Lit.int.injEq, true_and] at hy
  rw [e, hy]
set_option maxRecDepth 100000 in
/-- a row of the table -/
theorem uses_row {H : Type} {enc : TypeId × Value → H} {w : World} {base : Nat} {sp : Nat → Bool} {held : Bool} {f : Nat} {cs : List Value} {x : DataW H × List MemPlace} {l : List Int} (h8 : cs.length = 8)
    (h : DataW.trod enc Tryz.prog w base sp held f 121 cs = some x) (hx : x.1 = .agg (l.map fun n => .lit (.int .u8 n))) : cs = l.map fun n => Value.int .u8 n := by
  obtain ⟨xs, m, _, rfl, _, hxl, hf⟩ := DataW.trod_struct Tryz.underlying121 h
  have hxl8 : xs.length = 8 := hxl
  have kN : Tryz.prog.cellsOf 117 = 1 := by kernel_rfl
  have kS : Tryz.prog.cellsOf 118 = 1 := by kernel_rfl
  have kA : Tryz.prog.cellsOf 119 = 1 := by kernel_rfl
  have kU : Tryz.prog.cellsOf 5 = 1 := by kernel_rfl
  simp only [DataW.agg.injEq] at hx
  have hll : l.length = 8 := by have := congrArg List.length hx; rw [List.length_map, List.length_map] at this; omega
  match cs, h8, xs, hxl8, l, hll with
  | [c0, c1, c2, c3, c4, c5, c6, c7], _, [y0, y1, y2, y3, y4, y5, y6, y7], _, [n0, n1, n2, n3, n4, n5, n6, n7], _ =>
    simp only [List.map_cons, List.map_nil, List.cons.injEq, and_true] at hx
    obtain ⟨x0, x1, x2, x3, x4, x5, x6, x7⟩ := hx
    have f0 : DataW.trod enc Tryz.prog w base sp held m 117 [c0] = some y0 := by have := hf 0 _ rfl; simpa [kN] using this
    have f1 : DataW.trod enc Tryz.prog w base sp held m 118 [c1] = some y1 := by have := hf 1 _ rfl; simpa [kS] using this
    have f2 : DataW.trod enc Tryz.prog w base sp held m 118 [c2] = some y2 := by have := hf 2 _ rfl; simpa [kS] using this
    have f3 : DataW.trod enc Tryz.prog w base sp held m 5 [c3] = some y3 := by have := hf 3 _ rfl; simpa [kU] using this
    have f4 : DataW.trod enc Tryz.prog w base sp held m 5 [c4] = some y4 := by have := hf 4 _ rfl; simpa [kU] using this
    have f5 : DataW.trod enc Tryz.prog w base sp held m 5 [c5] = some y5 := by have := hf 5 _ rfl; simpa [kU] using this
    have f6 : DataW.trod enc Tryz.prog w base sp held m 5 [c6] = some y6 := by have := hf 6 _ rfl; simpa [kU] using this
    have f7 : DataW.trod enc Tryz.prog w base sp held m 119 [c7] = some y7 := by have := hf 7 _ rfl; simpa [kA] using this
    rw [trod_u8 Tryz.underlying117 f0 x0, trod_u8 Tryz.underlying118 f1 x1, trod_u8 Tryz.underlying118 f2 x2, trod_u8 Tryz.underlying5 f3 x3, trod_u8 Tryz.underlying5 f4 x4, trod_u8 Tryz.underlying5 f5 x5, trod_u8 Tryz.underlying5 f6 x6, trod_u8 Tryz.underlying119 f7 x7]
    rfl
set_option maxRecDepth 100000 in
theorem cells_of_uses {H : Type} {enc : TypeId × Value → H} {w : World} {base : Nat} {sp : Nat → Bool} {held : Bool} {fuel : Nat} {cs : List Value} {p : List MemPlace}
    (h : DataW.trod enc Tryz.prog w base sp held fuel 168 cs = some (.agg (usesTab.map fun r => .agg (r.map fun n => .lit (.int .u8 n))), p)) : cs = usesVals := by
  obtain ⟨xs, m, _, hx, hlen, hn, hel⟩ := DataW.trod_array Tryz.underlying168 h
  have c8 : Tryz.prog.cellsOf 121 = 8 := by kernel_rfl
  have c160 : Tryz.prog.cellsOf 168 = 160 := by kernel_rfl
  rw [c160] at hlen
  simp only [Prod.mk.injEq, DataW.agg.injEq] at hx
  obtain ⟨hx1, _⟩ := hx
  have hrow : ∀ i, i < 20 → (cs.drop (i * 8)).take 8 = (usesTab.getD i []).map fun n => Value.int .u8 n := fun i hi => by
    have hsi : i < usesTab.length := hi
    have hxi : i < xs.length := by omega
    have h1 := hel i hi
    rw [c8, List.getElem?_eq_getElem hxi] at h1
    have h3 := congrArg (fun l => l[i]?) hx1
    simp only [List.getElem?_map, List.getElem?_eq_getElem hsi, List.getElem?_eq_getElem hxi, Option.map_some, Option.some.injEq] at h3
    rw [List.getD_eq_getElem?_getD, List.getElem?_eq_getElem hsi, Option.getD_some]
    exact uses_row (by rw [List.length_take, List.length_drop]; omega) h1 h3.symm
  have hut : ∀ i, i < 20 → ∀ k, k < 8 → ((usesTab.getD i []).map fun n => Value.int .u8 n)[k]? = some (.int .u8 (useOf i k)) := fun i hi k hk => by
    have h : ∀ i, i < 20 → ∀ k, k < 8 → (usesTab.getD i [])[k]? = some (useOf i k) := by decide
    rw [List.getElem?_map, h i hi k hk]; rfl
  apply List.ext_getElem?
  intro j
  by_cases hj : j < 160
  · have h1 := hrow (j / 8) (by omega)
    have h2 := hut (j / 8) (by omega) (j % 8) (by omega)
    have h3 := usesVals_at (j / 8) (by omega) (j % 8) (by omega)
    rw [← h1, List.getElem?_take, if_pos (by omega), List.getElem?_drop] at h2
    rw [show j / 8 * 8 + j % 8 = j by omega] at h2 h3
    rw [h2, h3]
  · rw [List.getElem?_eq_none (by omega), List.getElem?_eq_none (by have : usesVals.length = 160 := by decide
                                                                    omega)]

set_option maxRecDepth 100000 in
/-- WHAT THE CONDITION GIVES THE WALKS. -/
theorem env_of_laid {W : World} (h : laidMetH Tryz.prog laidAll W) : EnvS W := by
  rw [MakeChecks.laidMetH_plain _ _ _ (by kernel_rfl)] at h
  obtain ⟨ps, ⟨g0, t0, cs0, f0, p0, q0, hg0, ht0, hv0, hd0, ⟨g1, t1, cs1, f1, p1, q1, hg1, ht1, hv1, hd1, ⟨g2, t2, cs2, f2, p2, q2, hg2, ht2, hv2, hd2, ⟨g3, t3, cs3, f3, p3, q3, hg3, ht3, hv3, hd3, ⟨g4, t4, cs4, f4, p4, q4, hg4, ht4, hv4, hd4, _, _⟩, _⟩, _⟩, _⟩, _⟩, _, _⟩ := h
  obtain rfl := Option.some.inj (gTab.symm.trans hg2)
  obtain rfl := Option.some.inj (gSym.symm.trans hg3)
  obtain rfl := Option.some.inj (gUses.symm.trans hg4)
  obtain rfl := Option.some.inj (tTab.symm.trans ht2)
  obtain rfl := Option.some.inj (tSym.symm.trans ht3)
  obtain rfl := Option.some.inj (tUses.symm.trans ht4)
  refine ⟨?_, ?_, ?_⟩
  · obtain ⟨t, fr, hh⟩ := heap_of_var gSym hv3
    have := cells_of_strs hd3
    refine ⟨t, fr, ?_⟩
    rw [hh]
    unfold symVals
    rw [← this]
  · obtain ⟨t, fr, hh⟩ := heap_of_var gUses hv4
    have := cells_of_uses hd4
    refine ⟨t, fr, ?_⟩
    rw [hh, ← this]
  · obtain ⟨t, fr, hh⟩ := heap_of_var gTab hv2
    refine ⟨t, fr, ?_⟩
    rw [hh]
    have := Lib.cells_of_tab (k := .u64) (zs := Lib.pow10Tab) Tryz.underlying244 Tryz.underlying234 (by kernel_rfl) (by kernel_rfl) hd2
    rw [← this]
end Go.Proofs.YtndgoefhhjcllaaGreatDoor
/- The card of SyntaxSame: for all expressions and types that come in, the call returns true. Conditions: the listed variables lie as the program's text lays them. -/
namespace Go.Proofs.YtndgoefhhjcllaaGreatDoor.syntaxSame
open Go.ChangeShapes Go.WideShapes Go.ChangeAt Go.WideMaps Go.WideElems Go.RowKit

set_option maxRecDepth 100000 in
theorem lifted (os : Os) (started : os.Started) (H : Type) (enc : TypeId × Value → H) :
    ReturnsInHanded {} Tryz.checked os 5 .any (fun w args => (Rows.syntaxSameSpec.pre enc Tryz.prog Tryz.f5 [] false w args ∧ laidMetH Tryz.prog laidAll w) ∧ sizedMet enc Tryz.prog Tryz.f5 (OpenSpec.ofChange Rows.syntaxSameSpec) false w args)
      (Rows.syntaxSameSpec.post enc Tryz.prog Tryz.f5 false true false false) := by
  refine returnsInHanded_of_change_and (C := Tryz.checked) (X := fun w _ => laidMetH Tryz.prog laidAll w) (fun _ _ _ hh h => h.of_heap hh) own started (by kernel_rfl) Tryz.func5
    (ChangeSpec.witness_shaped (enc := enc) (C := Tryz.checked) (os := os) (X := fun w _ => laidMetH Tryz.prog laidAll w) false (World.doorLaid Tryz.prog 400 os) #[.agg #[.int .i64 0, .int .i64 0, .string ByteArray.empty, .string ByteArray.empty, .slice none 0 0, .slice none 0 0, .slice none 0 0], .agg #[.int .i64 0, .int .i64 0, .string ByteArray.empty, .string ByteArray.empty, .slice none 0 0, .slice none 0 0, .slice none 0 0], .agg #[.int .i64 0, .int .i64 0, .string ByteArray.empty, .slice none 0 0, .slice none 0 0, .int .i64 0], .agg #[.int .i64 0, .int .i64 0, .string ByteArray.empty, .slice none 0 0, .slice none 0 0, .int .i64 0]] 8 rfl (World.shaped_of_RefB (by kernel_rfl) (by kernel_rfl)) (by kernel_rfl) (by kernel_rfl) (by kernel_rfl) (door_met os _)) ?_
  intro W base args ds gs before hval0 hW _ hsz hL _
  have hval : ∀ (j : Nat) t v, Tryz.f5.params[j]? = some t → args[j]? = some v → Value.okWide Tryz.prog W .any base t v := hval0
  have hW' := hW
  obtain ⟨p, q, hA0, hV, rfl, hfz, hnd⟩ := hW
  have hA : DataW.TrodAll enc Tryz.prog W 0 (fun _ => true) true Tryz.f5.params.toList args.toList ds p := hA0
  rw [Tryz.params5] at hA hval hsz
  obtain ⟨v0, vs0, d0, ds0, p0, q0, hargs, rfl, rfl, h0, r0⟩ := trodAll_cons hA
  obtain ⟨v1, vs1, d1, ds1, p1, q1, rfl, rfl, rfl, h1, r1⟩ := trodAll_cons r0
  obtain ⟨v2, vs2, d2, ds2, p2, q2, rfl, rfl, rfl, h2, r2⟩ := trodAll_cons r1
  obtain ⟨v3, vs3, d3, ds3, p3, q3, rfl, rfl, rfl, h3, r3⟩ := trodAll_cons r2
  obtain ⟨rfl, rfl, rfl⟩ := trodAll_nil r3
  obtain rfl : args = #[v0, v1, v2, v3] := by cases args; simp_all
  obtain ⟨rfl, rfl⟩ := trodVars_none hV
  obtain ⟨cs0, rfl, hsz0⟩ := okWide_struct Tryz.underlying27 (hval 0 27 v0 rfl rfl)
  obtain ⟨e0, h70, hre0⟩ := open_expr h0
  have hre0' : RepE (fun _ => True) W e0 cs0.toList := hre0
  obtain ⟨k0, n0, s0, t0, ns0, l0, ops0, bs0⟩ := e0
  obtain ⟨A0, a0, B0, b0, C0, c0, hcs0, _⟩ := hre0'
  have hce0 : cs0 = #[.int .i64 k0, .int .i64 n0, .string (strB s0), .string (strB t0), .slice A0 ns0.length a0, .slice B0 l0.length b0, .slice C0 bs0.length c0] := by
    apply Array.toList_inj.1
    rw [show cs0.toList = _ from hcs0]
    rfl
  subst hce0
  obtain ⟨cs1, rfl, hsz1⟩ := okWide_struct Tryz.underlying27 (hval 1 27 v1 rfl rfl)
  obtain ⟨e1, h71, hre1⟩ := open_expr h1
  have hre1' : RepE (fun _ => True) W e1 cs1.toList := hre1
  obtain ⟨k1, n1, s1, t1, ns1, l1, ops1, bs1⟩ := e1
  obtain ⟨A1, a1, B1, b1, C1, c1, hcs1, _⟩ := hre1'
  have hce1 : cs1 = #[.int .i64 k1, .int .i64 n1, .string (strB s1), .string (strB t1), .slice A1 ns1.length a1, .slice B1 l1.length b1, .slice C1 bs1.length c1] := by
    apply Array.toList_inj.1
    rw [show cs1.toList = _ from hcs1]
    rfl
  subst hce1
  obtain ⟨cs2, rfl, hsz2⟩ := okWide_struct Tryz.underlying41 (hval 2 41 v2 rfl rfl)
  obtain ⟨e2, h72, hre2⟩ := open_type h2
  have hre2' : RepT (fun _ => True) W e2 cs2.toList := hre2
  obtain ⟨k2, n2, s2, l2, ls2, tl2⟩ := e2
  obtain ⟨A2, a2, B2, b2, hcs2, _⟩ := hre2'
  have hce2 : cs2 = #[.int .i64 k2, .int .i64 n2, .string (strB s2), .slice A2 l2.length a2, .slice B2 ls2.length b2, .int .i64 tl2] := by
    apply Array.toList_inj.1
    rw [show cs2.toList = _ from hcs2]
    rfl
  subst hce2
  obtain ⟨cs3, rfl, hsz3⟩ := okWide_struct Tryz.underlying41 (hval 3 41 v3 rfl rfl)
  obtain ⟨e3, h73, hre3⟩ := open_type h3
  have hre3' : RepT (fun _ => True) W e3 cs3.toList := hre3
  obtain ⟨k3, n3, s3, l3, ls3, tl3⟩ := e3
  obtain ⟨A3, a3, B3, b3, hcs3, _⟩ := hre3'
  have hce3 : cs3 = #[.int .i64 k3, .int .i64 n3, .string (strB s3), .slice A3 l3.length a3, .slice B3 ls3.length b3, .int .i64 tl3] := by
    apply Array.toList_inj.1
    rw [show cs3.toList = _ from hcs3]
    rfl
  subst hce3
  clear hA0 hval0 hcs0 hcs1 hcs2 hcs3
  simp only [List.append_nil] at hW'
  refine (same_law (.mk k0 n0 s0 t0 ns0 l0 ops0 bs0) (.mk k1 n1 s1 t1 ns1 l1 ops1 bs1) (.mk k2 n2 s2 l2 ls2 tl2) (.mk k3 n3 s3 l3 ls3 tl3) k0 n0 (strB s0) (strB t0) A0 ns0.length a0 B0 l0.length b0 C0 bs0.length c0 k1 n1 (strB s1) (strB t1) A1 ns1.length a1 B1 l1.length b1 C1 bs1.length c1 k2 n2 (strB s2) A2 l2.length a2 B2 ls2.length b2 tl2 k3 n3 (strB s3) A3 l3.length a3 B3 ls3.length b3 tl3 W hre0 hre1 hre2 hre3 (env_of_laid hL)).mono fun e W' ⟨he, hb⟩ => ?_
  subst he
  exact ⟨_, rfl, _, _, _, [], (p0 ++ (p1 ++ (p2 ++ (p3 ++ [])))), [], hW', (trodAll_cons_mk (shut_bool Tryz.underlying4 _) trodAll_mk0), (trodAll_cons_mk (Below.trod (by kernel_rfl) (by kernel_rfl) (of_decide_eq_true (by kernel_rfl)) h0 hb (fun x hx => by have := hW'.lt x (by simp [hx]); simpa using this)) (trodAll_cons_mk (Below.trod (by kernel_rfl) (by kernel_rfl) (of_decide_eq_true (by kernel_rfl)) h1 hb (fun x hx => by have := hW'.lt x (by simp [hx]); simpa using this)) (trodAll_cons_mk (Below.trod (by kernel_rfl) (by kernel_rfl) (of_decide_eq_true (by kernel_rfl)) h2 hb (fun x hx => by have := hW'.lt x (by simp [hx]); simpa using this)) (trodAll_cons_mk (Below.trod (by kernel_rfl) (by kernel_rfl) (of_decide_eq_true (by kernel_rfl)) h3 hb (fun x hx => by have := hW'.lt x (by simp [hx]); simpa using this)) trodAll_mk0)))), rfl, hb.frame _, fun h => by cases h⟩

theorem row_holds : Rows.SyntaxSameSaid :=
  OpenClaim.holds_of_wide 5 Tryz.f5 rfl rfl rfl rfl rfl rfl rfl ⟨rfl, rfl, rfl, rfl, rfl⟩ rfl rfl rfl rfl rfl (by kernel_rfl) Tryz.func5 (by kernel_rfl)
    (of_decide_eq_true (by kernel_rfl)) (by unfold Func.isWrapper; first | (rw [if_pos (by decide +kernel)]; kernel_rfl) | (rw [if_neg (by decide +kernel)]; exact ⟨rfl, rfl⟩))
    (fun os started H enc _ => lifted os started H enc)

theorem proved : Rows.SyntaxSameCardSaid :=
  Claim7.holds_tied_plain_at .later [] [.data, .data, .data, .data, .data] true (true, "c226e26032dc9eec93045154084e63c9a08de16c18c22fe11dfeaa145e65ab98") false
    row_holds (fun _ h => by cases h) (by kernel_rfl) (fun _ h => by cases h) syntaxSame_row_tie rfl ⟨rfl, rfl⟩ (by kernel_rfl) rfl
    (fun f fn hf hfn => by
      obtain rfl : f = 5 := Option.some.inj ((show Tryz.prog.funcNamed "reprise/repriselaw02.SyntaxSame" = some 5 by kernel_rfl).symm.trans hf) |>.symm
      obtain rfl : fn = Tryz.f5 := (Option.some.inj (Tryz.func5.symm.trans hfn)).symm
      exact ⟨by kernel_rfl, fun j t ht => by
        rw [Tryz.params5] at ht
        have hm : t ∈ [27, 27, 41, 41] := by simpa using Array.mem_of_getElem? ht
        have hall : ([27, 27, 41, 41].all fun u => !Tryz.prog.wantsStandIn u) = true := by kernel_rfl
        exact (show Tryz.prog.wantsStandIn t = false by simpa using List.all_eq_true.1 hall t hm)⟩)
    (by kernel_rfl)
#print axioms proved
end Go.Proofs.YtndgoefhhjcllaaGreatDoor.syntaxSame
