/- What the laid variables give a walk. -/
import Derived.Test.YtdnolbbkphgfiaaDoorFrame
import Derived.Lib.LaidTab
namespace Go.Proofs.YtdnolbbkphgfiaaDoor
open Go.ChangeShapes Go.WideShapes Go.ChangeAt Go.WideMaps Go.WideElems Go.RowKit

theorem gSym : Tryd.prog.globalNamed "reprise/lexer.symbols" = some 0 := by kernel_rfl
theorem gTab : Tryd.prog.globalNamed "internal/strconv.uint64pow10" = some 2 := by kernel_rfl
theorem tSym : (Tryd.prog.globals[0]?).map (·.type) = some 83 := by kernel_rfl
theorem tTab : (Tryd.prog.globals[2]?).map (·.type) = some 110 := by kernel_rfl

set_option maxRecDepth 100000 in
theorem cells_of_strs {H : Type} {enc : TypeId × Value → H} {w : World} {base : Nat} {sp : Nat → Bool} {held : Bool} {fuel : Nat} {cs : List Value} {p : List MemPlace}
    (h : DataW.trod enc Tryd.prog w base sp held fuel 83 cs = some (.agg (symList.map fun l => .lit (.string l)), p)) : cs = symList.map fun l => Value.string (strB l) := by
  obtain ⟨xs, m, _, hx, hlen, hn, hel⟩ := DataW.trod_array Tryd.underlying83 h
  have c9 : Tryd.prog.cellsOf 9 = 1 := by kernel_rfl
  have c83 : Tryd.prog.cellsOf 83 = 20 := by kernel_rfl
  rw [c83] at hlen
  simp only [Prod.mk.injEq, DataW.agg.injEq] at hx
  obtain ⟨hx1, _⟩ := hx
  apply List.ext_getElem?
  intro i
  by_cases hi : i < 20
  · have hsi : i < symList.length := hi
    have h1 := hel i hi
    rw [c9, Nat.mul_one] at h1
    have hci : i < cs.length := by omega
    rw [List.drop_eq_getElem_cons hci] at h1
    have hxi : i < xs.length := by omega
    rw [List.getElem?_eq_getElem hxi] at h1
    obtain ⟨s, e1, e2, _⟩ := DataW.trod_string Tryd.underlying9 (show DataW.trod enc Tryd.prog w base sp held m 9 [cs[i]] = some xs[i] from h1)
    have h3 := congrArg (fun l => l[i]?) hx1
    simp only [List.getElem?_map, List.getElem?_eq_getElem hsi, List.getElem?_eq_getElem hxi, Option.map_some, Option.some.injEq] at h3
    rw [e2] at h3
    rw [List.getElem?_eq_getElem hci, List.getElem?_map, List.getElem?_eq_getElem hsi, Option.map_some]
    simp only [List.cons.injEq] at e1
    rw [e1.1]
    generalize symList[i] = y at h3 ⊢
    have h4 : s.data.toList = y := by simp only [DataW.lit.injEq, Lit.string.injEq] at h3; exact h3.symm
    rw [← h4, strB_data]
  · rw [List.getElem?_eq_none (by omega), List.getElem?_eq_none (by rw [List.length_map]; show 20 ≤ i; omega)]
theorem heap_of_var {W : World} {n : String} {g : Nat} {cs : Array Value} (hg : Tryd.prog.globalNamed n = some g) (h : W.var? Tryd.prog n = some cs) : ∃ t fr, W.heap[g]? = some (.cells cs t fr) := by
  simp only [World.var?, hg, Option.bind_some] at h
  split at h
  · injection h with h; subst h; exact ⟨_, _, ‹_›⟩
  · cases h

/-- WHAT THE CONDITION GIVES THE WALKS. -/
theorem env_of_laid {W : World} (h : laidMetH Tryd.prog laidAll W) : Env W := by
  rw [MakeChecks.laidMetH_plain _ _ _ (by kernel_rfl)] at h
  obtain ⟨ps, ⟨g0, t0, cs0, f0, p0, q0, hg0, ht0, hv0, hd0, ⟨g1, t1, cs1, f1, p1, q1, hg1, ht1, hv1, hd1, ⟨g2, t2, cs2, f2, p2, q2, hg2, ht2, hv2, hd2, ⟨g3, t3, cs3, f3, p3, q3, hg3, ht3, hv3, hd3, _, _⟩, _⟩, _⟩, _⟩, _, _⟩ := h
  obtain rfl := Option.some.inj (gTab.symm.trans hg2)
  obtain rfl := Option.some.inj (gSym.symm.trans hg3)
  obtain rfl := Option.some.inj (tTab.symm.trans ht2)
  obtain rfl := Option.some.inj (tSym.symm.trans ht3)
  refine ⟨?_, ?_⟩
  · obtain ⟨t, fr, hh⟩ := heap_of_var gSym hv3
    have := cells_of_strs hd3
    refine ⟨t, fr, ?_⟩
    rw [hh]
    unfold symVals
    rw [← this]
  · obtain ⟨t, fr, hh⟩ := heap_of_var gTab hv2
    refine ⟨t, fr, ?_⟩
    rw [hh]
    have := Lib.cells_of_tab (k := .u64) (zs := Lib.pow10Tab) Tryd.underlying110 Tryd.underlying99 (by kernel_rfl) (by kernel_rfl) hd2
    rw [← this]
end Go.Proofs.YtdnolbbkphgfiaaDoor
