/- An argument that is a list of tokens, opened. -/
import Derived.Test.YtdnolbbkphgfiaaDoorJoin
import Derived.Deep.Slices
import Derived.Deep.Fields
import Derived.ChangeSame
namespace Go.Proofs.YtdnolbbkphgfiaaDoor
open Go.ChangeShapes Go.WideShapes Go.Deep Go.RowKit

theorem add_off (b off n : Nat) : (⟨b, off, none⟩ : Addr).add n = ⟨b, off + n, none⟩ := by
  unfold Addr.add
  split
  · rename_i h; subst h; rfl
  · rfl
section
variable {H : Type} {enc : TypeId × Value → H} {W : World} {sp : Nat → Bool} {held : Bool}
set_option maxRecDepth 100000 in
theorem tok_open {cs : List Value} {x : DataW H × List MemPlace} {f : Nat} (h : DataW.trod enc Tryd.prog W 0 sp held f 43 cs = some x) :
    ∃ t : Rt, cs = [.int .i64 t.k, .string t.s, .int .i64 t.n, .int .i64 t.p] ∧ t.ok := by
  obtain ⟨xs, m, rfl, _, hl, hxl, hf⟩ := DataW.trod_struct Tryd.underlying43 h
  have h4 : Tryd.prog.cellsOf 43 = 4 := by kernel_rfl
  have hc1 : Tryd.prog.cellsOf 41 = 1 := by kernel_rfl
  have hc9 : Tryd.prog.cellsOf 9 = 1 := by kernel_rfl
  have hc3 : Tryd.prog.cellsOf 3 = 1 := by kernel_rfl
  rw [h4] at hl
  have hxl4 : xs.length = 4 := hxl
  match cs, hl, xs, hxl4 with
  | [c0, c1, c2, c3], _, [y0, y1, y2, y3], _ =>
    have f0 : DataW.trod enc Tryd.prog W 0 sp held m 41 [c0] = some y0 := by have := hf 0 _ rfl; simpa [hc1] using this
    have f1 : DataW.trod enc Tryd.prog W 0 sp held m 9 [c1] = some y1 := by have := hf 1 _ rfl; simpa [hc9] using this
    have f2 : DataW.trod enc Tryd.prog W 0 sp held m 3 [c2] = some y2 := by have := hf 2 _ rfl; simpa [hc3] using this
    have f3 : DataW.trod enc Tryd.prog W 0 sp held m 3 [c3] = some y3 := by have := hf 3 _ rfl; simpa [hc3] using this
    obtain ⟨k, e0, _, _⟩ := DataW.trod_int Tryd.underlying41 f0
    obtain ⟨s, e1, _, w1⟩ := DataW.trod_string Tryd.underlying9 f1
    obtain ⟨n, e2, _, w2⟩ := DataW.trod_int Tryd.underlying3 f2
    obtain ⟨p, e3, _, _⟩ := DataW.trod_int Tryd.underlying3 f3
    simp at e0 e1 e2 e3
    subst e0; subst e1; subst e2; subst e3
    refine ⟨⟨k, s, n, p⟩, rfl, ?_, w1⟩
    simp only [Lit.wf, Bool.and_eq_true, decide_eq_true_eq] at w2
    exact w2

theorem list_of {α : Type} (n : Nat) (P : Nat → α → Prop) (h : ∀ i, i < n → ∃ a, P i a) : ∃ l : List α, l.length = n ∧ ∀ i a, l[i]? = some a → P i a := by
  induction n with
  | zero => exact ⟨[], rfl, fun i a h => by simp at h⟩
  | succ n ih =>
    obtain ⟨l, hl, hp⟩ := ih fun i hi => h i (by omega)
    obtain ⟨a, ha⟩ := h n (by omega)
    refine ⟨l ++ [a], by simp [hl], fun i b hb => ?_⟩
    by_cases hi : i < n
    · rw [List.getElem?_append_left (by omega)] at hb; exact hp i b hb
    · rw [List.getElem?_append_right (by omega)] at hb
      have : i = n := by
        have := (List.getElem?_eq_some_iff.1 hb).1
        simp at this; omega
      subst this
      rw [hl] at hb
      simp at hb
      subst hb; exact ha

set_option maxRecDepth 100000 in
theorem open_toks {base : Nat} {v : Value} {d : DataW H} {p : List MemPlace} (hv : Value.okWide Tryd.prog W .any base 22 v) (h : DataW.Trod enc Tryd.prog W 0 sp held 22 v d p) :
    ∃ A c, ∃ ts : List Rt, v = .slice A ts.length c ∧ Toks W A ts ∧ (∀ t ∈ ts, t.ok) ∧ ((d = .nil ∧ ts = []) ∨ ∃ el re, d = .slice el re ∧ el.length = ts.length) := by
  obtain ⟨A, n, c, rfl⟩ := okWide_slice Tryd.underlying22 hv
  obtain ⟨fuel, hf⟩ := h
  rcases open_slice Tryd.underlying22 hf with ⟨hc, hx⟩ | ⟨a, len, cap, m, n', D, Pl, hc, hb, hl, hm, hmm, hx, hi⟩
  · simp only [Value.cells, List.cons.injEq, Value.slice.injEq, and_true] at hc
    obtain ⟨rfl, rfl, rfl⟩ := hc
    injection hx with h1 h2
    exact ⟨none, 0, [], rfl, fun h0 => by simp at h0, by simp, .inl ⟨h1, rfl⟩⟩
  · simp only [Value.cells, List.cons.injEq, Value.slice.injEq, and_true] at hc
    obtain ⟨rfl, rfl, rfl⟩ := hc
    injection hx with h1 h2
    have hnm : n ≤ m := by rw [hmm]; split <;> omega
    have h4 : Tryd.prog.cellsOf 43 = 4 := by kernel_rfl
    obtain ⟨ts, hts, hp⟩ := list_of n (fun i (t : Rt) => t.ok ∧ ∀ j, j < 4 → W.cell? ((a.add (i * 4)).add j) = [Value.int .i64 t.k, .string t.s, .int .i64 t.n, .int .i64 t.p][j]?) fun i hin => by
      obtain ⟨cs', hcs, htr⟩ := hi i (by omega)
      obtain ⟨t, rfl, hok⟩ := tok_open htr
      obtain ⟨_, _, hat⟩ := World.cells?_some hcs
      rw [h4] at hat
      exact ⟨t, hok, hat⟩
    subst hts
    refine ⟨some a, c, ts, rfl, fun h0 => ?_, fun t ht => ?_, .inr ⟨_, _, h1, by simp⟩⟩
    · have hsp : a.spot = none := by
        have hh := (hp 0 ts[0] (List.getElem?_eq_getElem h0)).2 0 (by omega)
        simp only [List.getElem?_cons_zero] at hh
        unfold World.cell? at hh
        split at hh
        · split at hh
          · cases hh
          · rename_i hs; simpa [Addr.add] using hs
        · cases hh
      have hlt : a.block < W.heap.size := by
        have hh := (hp 0 ts[0] (List.getElem?_eq_getElem h0)).2 0 (by omega)
        simp only [List.getElem?_cons_zero] at hh
        unfold World.cell? at hh
        split at hh
        · rename_i hs; exact (Array.getElem?_eq_some_iff.1 hs).1
        · cases hh
      obtain ⟨b, off, spot⟩ := a
      simp only at hsp hlt
      subst hsp
      refine ⟨b, off, rfl, hlt, fun j t hj => ?_⟩
      have hh := (hp j t hj).2
      have e : ∀ i, (((⟨b, off, none⟩ : Addr).add (j * 4)).add i) = ⟨b, off + j * 4 + i, none⟩ := fun i => by rw [add_off, add_off]
      simp only [e] at hh
      exact ⟨hh 0 (by omega), hh 1 (by omega), hh 2 (by omega), hh 3 (by omega)⟩
    · obtain ⟨i, hil, rfl⟩ := List.getElem_of_mem ht
      exact (hp i _ (List.getElem?_eq_getElem hil)).1
end
end Go.Proofs.YtdnolbbkphgfiaaDoor
