/- Same, and the tokens of the examples. -/
import Derived.Test.YtdnolbbkphgfiaaDoorLex
import Derived.Test.YtdnolbbkphgfiaaDoorJoin
import Derived.Test.YtdnolbbkphgfiaaDoorWhere
namespace Go.Proofs.YtdnolbbkphgfiaaDoor
open Go.RowKit

def rtCells (t : Rt) : List Value := [.int .i64 t.k, .string t.s, .int .i64 t.n, .int .i64 t.p]
def rflat (ts : List Rt) : List Value := ts.flatMap rtCells
def rt (x : Tk) : Rt := ⟨x.kind, strB x.s, x.n, x.pos⟩
theorem flat_rt (xs : List Tk) : flat xs = rflat (xs.map rt) := by
  unfold flat rflat
  rw [List.flatMap_map]
  rfl
theorem rflat_at : ∀ (ts : List Rt) (j i : Nat) (t : Rt), ts[j]? = some t → i < 4 → (rflat ts)[j * 4 + i]? = (rtCells t)[i]?
  | [], j, i, t, h, _ => by simp at h
  | x :: r, 0, i, t, h, hi => by
    simp only [List.getElem?_cons_zero, Option.some.injEq] at h
    subst h
    show ([_, _, _, _] ++ rflat r)[0 * 4 + i]? = _
    rw [List.getElem?_append_left (by simp; omega)]
    simp [rtCells]
  | x :: r, j + 1, i, t, h, hi => by
    simp only [List.getElem?_cons_succ] at h
    have ih := rflat_at r j i t h hi
    show ([_, _, _, _] ++ rflat r)[(j + 1) * 4 + i]? = _
    rw [List.getElem?_append_right (by simp; omega), ← ih]
    congr 1
    simp only [List.length_cons, List.length_nil]
    omega
theorem rflat_len (ts : List Rt) : (rflat ts).length = ts.length * 4 := by
  unfold rflat
  induction ts with
  | nil => rfl
  | cons x r ih => simp [rtCells, ih]; omega
theorem toks_lit (W : World) (ts : List Rt) (t : TypeId) : Toks (W.alloc (.cells (rflat ts).toArray t)) (some ⟨W.heap.size, 0, none⟩) ts := fun _ => by
  refine ⟨W.heap.size, 0, rfl, by simp, fun j x hj => ?_⟩
  have hb := heap_alloc_new W (.cells (rflat ts).toArray t)
  have hc : ∀ i, (W.alloc (.cells (rflat ts).toArray t)).cell? ⟨W.heap.size, i, none⟩ = (rflat ts)[i]? := fun i => by
    rw [cell_of_row _ _ i _ t (0, 0) hb]; simp
  have h0 := rflat_at ts j 0 x hj (by omega)
  have h1 := rflat_at ts j 1 x hj (by omega)
  have h2 := rflat_at ts j 2 x hj (by omega)
  have h3 := rflat_at ts j 3 x hj (by omega)
  simp only [Nat.zero_add, hc]
  exact ⟨h0, h1, h2, h3⟩
theorem toks_own {w : World} {base : Nat} {v : Value} {xs : List Tk} (h : w.ownsRow base 43 4 v xs.length (flat xs)) : ∃ A c, v = .slice A xs.length c ∧ Toks w A (xs.map rt) := by
  rcases h.2 with ⟨rfl, h0⟩ | ⟨g, cap, cur, rfl, hb, hg, hn, hcap, _⟩
  · refine ⟨none, 0, by rw [h0], fun h1 => ?_⟩
    rw [List.length_map, h0] at h1; omega
  · refine ⟨some ⟨g, 0, none⟩, cap, rfl, fun _ => ⟨g, 0, rfl, (Array.getElem?_eq_some_iff.1 hg).1, fun j x hj => ?_⟩⟩
    have hjl : j < xs.length := by have := (List.getElem?_eq_some_iff.1 hj).1; simpa using this
    have hc : ∀ i, i < 4 → w.cell? ⟨g, 0 + j * 4 + i, none⟩ = (rtCells x)[i]? := fun i hi => by
      rw [Nat.zero_add, ← rflat_at (xs.map rt) j i x hj hi, ← flat_rt]
      exact h.cellAt (j * 4 + i) (by omega)
    exact ⟨hc 0 (by omega), hc 1 (by omega), hc 2 (by omega), hc 3 (by omega)⟩

/-- Lex, the tokens read as a list -/
def LexOut (w : World) (r : List Tk × Int × Int) (e : Ending) (w' : World) : Prop :=
  ∃ A c, e = .returned (.tuple #[.slice A r.1.length c, .int .i64 r.2.1, .int .i64 r.2.2]) ∧ Toks w' A (r.1.map rt) ∧ Below w.heap.size w w'
theorem Lex_out (s : ByteArray) (w : World) (hY : Syms w) (hs : s.size ≤ maxLen) : Calls Tryd.prog 14 #[.string s] w (LexOut w (lexS s.data.toList)) :=
  (Lex_any s w hY hs).mono fun e w' ⟨v, he, ho, hb⟩ => by
    obtain ⟨A, c, rfl, hT⟩ := toks_own ho
    exact ⟨A, c, he, hT, hb⟩

set_option maxRecDepth 100000 in
set_option maxHeartbeats 1000000 in
theorem Same_eq (A B : Option Addr) (c d : Nat) (ts : List Rt) (w : World) (hA : Toks w A ts) (hB : Toks w B ts) (hlen : ts.length ≤ 1000000) :
    Calls Tryd.prog 16 #[.slice A ts.length c, .slice B ts.length d] w fun e w' => e = .returned (.bool true) ∧ Below w.heap.size w w' := by
  have HA := Lib.hid hA
  have HB := Lib.hid hB
  clear hA hB
  go_enter Tryd.func16, Tryd.ntmps16
  go_wp2_with fail
  go_loopw [5, 6] (fun v i wr => ∃ k : Nat, k ≤ ts.length ∧ i = .int .i64 (k : Int) ∧ v = .bool true ∧ Hid (Below w.heap.size w wr)) (fun _ i _ => ts.length - (intOf i).toNat)
  case atStart => exact ⟨0, by omega, rfl, rfl, Below.refl _ _⟩
  case round =>
    obtain ⟨k, hk, rfl, rfl, HW⟩ := hrel
    by_cases hlt : k < ts.length
    · obtain ⟨b, off, rfl, hbl, hcells⟩ := (HA.out.below HW.out) (by omega)
      obtain ⟨d0, d1, d2, d3⟩ := hcells k ts[k] (List.getElem?_eq_getElem hlt)
      obtain ⟨b', off', rfl, hbl', hcells'⟩ := (HB.out.below HW.out) (by omega)
      obtain ⟨e0, e1, e2, e3⟩ := hcells' k ts[k] (List.getElem?_eq_getElem hlt)
      clear hcells hcells'
      obtain ⟨t, ht⟩ : ∃ t, t = ts[k] := ⟨_, rfl⟩
      rw [← ht] at d0 d1 d2 d3 e0 e1 e2 e3
      clear ht
      have i0 : (0 : Int) ≤ (k : Int) := by omega
      have i1 : (k : Int) < (ts.length : Int) := by omega
      go_wp2_with fail
      go_quiet (fail)
      go_wp2_with fail
      go_roundw
      case rel => exact ⟨k + 1, by omega, by go_num, rfl, HW.out.trans ⟨rfl, rfl, rfl, Nat.le_refl _, fun _ _ => rfl⟩⟩
      case measure => simp [intOf]; omega
    · obtain rfl : k = ts.length := by omega
      go_wp2_with fail
      go_ret
      exact ⟨rfl, HW.out⟩

def awakeToks : List Tk := [⟨1, [102, 117, 110], 0, 0⟩, ⟨0, [120, 95, 49], 0, 4⟩, ⟨4, [45, 62], 0, 8⟩, ⟨0, [120, 95, 49], 0, 11⟩, ⟨4, [61, 61], 0, 15⟩, ⟨3, [], 10, 18⟩]
set_option maxRecDepth 100000 in
set_option maxHeartbeats 1000000 in
theorem Tokens_any (w : World) : Calls Tryd.prog 40 #[] w fun e w' => ∃ A c, e = .returned (.slice A 6 c) ∧ Toks w' A (awakeToks.map rt) ∧ Below w.heap.size w w' := by
  have H := Lib.hid (toks_lit w (awakeToks.map rt) 43)
  go_enter Tryd.func40, Tryd.ntmps40
  go_wp2
  go_ret
  exact ⟨_, _, rfl, H.out, (Below.refl _ _).alloc (Nat.le_refl _) _⟩
end Go.Proofs.YtdnolbbkphgfiaaDoor
