/- Texts put together by program: RParts RPartsW PtMath Evn. -/
import Derived.Test.YtndgoefhhjcllaaGreatDoorMgF
import Derived.Laws.AppendOwnNone
/- The reference's Parts. -/
namespace Go.Proofs.YtndgoefhhjcllaaGreatDoor
open Go.RowKit

/-- cells of expressions, in order -/
def CellsOf (B : Nat) (w : World) (l : List Ex) (cl : List (List Value)) : Prop := cl.length = l.length ∧ ∀ (j : Nat) (e : Ex) (c : List Value), l[j]? = some e → cl[j]? = some c → c.length = 7 ∧ (∀ u ∈ c, u.oneCell' = true) ∧ RepE (fun b => b < B) w e c
theorem CellsOf.keep {B : Nat} {w w' : World} {l : List Ex} {cl : List (List Value)} (h : CellsOf B w l cl) (hs : Same (fun b => b < B) w w') : CellsOf B w' l cl :=
  ⟨h.1, fun j e c h1 h2 => by obtain ⟨a, b, c⟩ := h.2 j e c h1 h2; exact ⟨a, b, c.keep hs⟩⟩
theorem one_cells {k n : Int} {s t : ByteArray} {A0 : Option Addr} {n0 c0 : Nat} {A1 : Option Addr} {n1 c1 : Nat} {A2 : Option Addr} {n2 c2 : Nat} : ∀ u ∈ [Value.int .i64 k, .int .i64 n, .string s, .string t, .slice A0 n0 c0, .slice A1 n1 c1, .slice A2 n2 c2], u.oneCell' = true := by
  intro u hu
  simp only [List.mem_cons, List.not_mem_nil, or_false] at hu
  rcases hu with rfl | rfl | rfl | rfl | rfl | rfl | rfl <;> rfl
theorem CellsOf.append {B : Nat} {w : World} {l m : List Ex} {cl cm : List (List Value)} (h : CellsOf B w l cl) (k : CellsOf B w m cm) : CellsOf B w (l ++ m) (cl ++ cm) := by
  refine ⟨by rw [List.length_append, List.length_append, h.1, k.1], fun j e c h1 h2 => ?_⟩
  by_cases hj : j < l.length
  · rw [List.getElem?_append_left hj] at h1
    rw [List.getElem?_append_left (by rw [h.1]; exact hj)] at h2
    exact h.2 j e c h1 h2
  · rw [List.getElem?_append_right (by omega)] at h1
    rw [List.getElem?_append_right (by rw [h.1]; omega), h.1] at h2
    exact k.2 _ e c h1 h2
theorem CellsOf.take {B : Nat} {w : World} {l : List Ex} {cl : List (List Value)} (h : CellsOf B w l cl) (k : Nat) : CellsOf B w (l.take k) (cl.take k) := by
  refine ⟨by rw [List.length_take, List.length_take, h.1], fun j e c h1 h2 => ?_⟩
  rw [List.getElem?_take] at h1 h2
  split at h1
  · rename_i hj
    rw [if_pos hj] at h2
    exact h.2 j e c h1 h2
  · cases h1
theorem cflat_len {cl : List (List Value)} (h : ∀ c ∈ cl, c.length = 7) : cl.flatten.length = cl.length * 7 := by
  induction cl with
  | nil => rfl
  | cons c r ih => rw [List.flatten_cons, List.length_append, h c (by simp), ih (fun x hx => h x (by simp [hx])), List.length_cons]; omega
theorem cflat_at {cl : List (List Value)} (h : ∀ c ∈ cl, c.length = 7) : ∀ (j i : Nat) (c : List Value), cl[j]? = some c → i < 7 → cl.flatten[j * 7 + i]? = c[i]? := by
  induction cl with
  | nil => intro j i c h1; simp at h1
  | cons a r ih =>
    intro j i c h1 hi
    have ha := h a (by simp)
    rw [List.flatten_cons]
    cases j with
    | zero =>
      simp at h1
      subst h1
      rw [List.getElem?_append_left (by omega), Nat.zero_mul, Nat.zero_add]
    | succ j =>
      rw [List.getElem?_append_right (by omega), show (j + 1) * 7 + i - a.length = j * 7 + i by omega]
      exact ih (fun x hx => h x (by simp [hx])) j i c (by simpa using h1) hi
theorem CellsOf.seven {B : Nat} {w : World} {l : List Ex} {cl : List (List Value)} (h : CellsOf B w l cl) : ∀ c ∈ cl, c.length = 7 := fun c hc => by
  obtain ⟨j, hj, rfl⟩ := List.getElem_of_mem hc
  exact (h.2 j _ _ (List.getElem?_eq_getElem (show j < l.length by rw [← h.1]; exact hj)) (List.getElem?_eq_getElem hj)).1
theorem CellsOf.one {B : Nat} {w : World} {l : List Ex} {cl : List (List Value)} (h : CellsOf B w l cl) : ∀ u ∈ cl.flatten, u.oneCell' = true := fun u hu => by
  obtain ⟨c, hc, hu⟩ := List.mem_flatten.1 hu
  obtain ⟨j, hj, rfl⟩ := List.getElem_of_mem hc
  exact (h.2 j _ _ (List.getElem?_eq_getElem (show j < l.length by rw [← h.1]; exact hj)) (List.getElem?_eq_getElem hj)).2.1 u hu
/-- parts in memory, as their cells -/
theorem PartsAt.cellsOf {B : Nat} {w : World} {b off : Nat} {l : List Ex} (h : PartsAt B w (some ⟨b, off, none⟩) l) : ∃ cl, CellsOf B w l cl ∧ ∀ (j : Nat) (u : Value), cl.flatten[j]? = some u → w.cell? ⟨b, off + j, none⟩ = some u := by
  obtain ⟨cl, hl, hc⟩ := list_of (α := List Value) l.length (fun i c => ∃ e, l[i]? = some e ∧ c.length = 7 ∧ (∀ u ∈ c, u.oneCell' = true) ∧ RepE (fun b => b < B) w e c ∧ ∀ i' u, c[i']? = some u → w.cell? ⟨b, off + (i * 7 + i'), none⟩ = some u) fun i hi => by
    obtain ⟨_, k, n, s, t, A0, n0, c0, A1, n1, c1, A2, n2, c2, H⟩ := h.at (List.getElem?_eq_getElem hi)
    refine ⟨_, _, List.getElem?_eq_getElem hi, rfl, one_cells, H.rep, fun i' u hu => ?_⟩
    match i', hu with
    | 0, hu => simp at hu; subst hu; exact H.d0
    | 1, hu => simp at hu; subst hu; have := H.d1; rwa [Nat.add_assoc] at this
    | 2, hu => simp at hu; subst hu; have := H.d2; rwa [Nat.add_assoc] at this
    | 3, hu => simp at hu; subst hu; have := H.d3; rwa [Nat.add_assoc] at this
    | 4, hu => simp at hu; subst hu; have := H.d4; rwa [Nat.add_assoc] at this
    | 5, hu => simp at hu; subst hu; have := H.d5; rwa [Nat.add_assoc] at this
    | 6, hu => simp at hu; subst hu; have := H.d6; rwa [Nat.add_assoc] at this
    | i' + 7, hu => simp at hu
  have h7 : ∀ c ∈ cl, c.length = 7 := fun c hcm => by
    obtain ⟨j, hj, rfl⟩ := List.getElem_of_mem hcm
    obtain ⟨_, _, h, _⟩ := hc j _ (List.getElem?_eq_getElem hj)
    exact h
  refine ⟨cl, ⟨hl, fun j e c h1 h2 => ?_⟩, fun j u hu => ?_⟩
  · obtain ⟨e', he, a1, a2, a3, _⟩ := hc j c h2
    obtain rfl : e' = e := Option.some.inj (he.symm.trans h1)
    exact ⟨a1, a2, a3⟩
  · have hj := (List.getElem?_eq_some_iff.1 hu).1
    rw [cflat_len h7] at hj
    have hjl : j / 7 < cl.length := by omega
    obtain ⟨_, _, _, _, _, a4⟩ := hc (j / 7) _ (List.getElem?_eq_getElem hjl)
    have e1 : j / 7 * 7 + j % 7 = j := by omega
    have := cflat_at h7 (j / 7) (j % 7) _ (List.getElem?_eq_getElem hjl) (by omega)
    rw [e1, hu] at this
    have := a4 (j % 7) u this.symm
    rwa [e1] at this
theorem ArmsAt.cellsOf {B : Nat} {w : World} {b off : Nat} {hs : List (Txt × List Txt)} {l : List Ex} (h : ArmsAt B w (some ⟨b, off, none⟩) hs l) (hl : hs.length = l.length) : ∃ cl, CellsOf B w l cl ∧ ∀ (j : Nat) (c : List Value), cl[j]? = some c → ∃ k n s t A0 n0 c0 A1 n1 c1 A2 n2 c2, c = [.int .i64 k, .int .i64 n, .string s, .string t, .slice A0 n0 c0, .slice A1 n1 c1, .slice A2 n2 c2] ∧
    w.cell? ⟨b, off + j * 9 + 2, none⟩ = some (.int .i64 k) ∧ w.cell? ⟨b, off + j * 9 + 3, none⟩ = some (.int .i64 n) ∧ w.cell? ⟨b, off + j * 9 + 4, none⟩ = some (.string s) ∧ w.cell? ⟨b, off + j * 9 + 5, none⟩ = some (.string t) ∧ w.cell? ⟨b, off + j * 9 + 6, none⟩ = some (.slice A0 n0 c0) ∧ w.cell? ⟨b, off + j * 9 + 7, none⟩ = some (.slice A1 n1 c1) ∧ w.cell? ⟨b, off + j * 9 + 8, none⟩ = some (.slice A2 n2 c2) := by
  obtain ⟨cl, hcl, hc⟩ := list_of (α := List Value) l.length (fun i c => ∃ e, l[i]? = some e ∧ ∃ k n s t A0 n0 c0 A1 n1 c1 A2 n2 c2, c = [.int .i64 k, .int .i64 n, .string s, .string t, .slice A0 n0 c0, .slice A1 n1 c1, .slice A2 n2 c2] ∧ RepE (fun b => b < B) w e c ∧
      w.cell? ⟨b, off + i * 9 + 2, none⟩ = some (.int .i64 k) ∧ w.cell? ⟨b, off + i * 9 + 3, none⟩ = some (.int .i64 n) ∧ w.cell? ⟨b, off + i * 9 + 4, none⟩ = some (.string s) ∧ w.cell? ⟨b, off + i * 9 + 5, none⟩ = some (.string t) ∧ w.cell? ⟨b, off + i * 9 + 6, none⟩ = some (.slice A0 n0 c0) ∧ w.cell? ⟨b, off + i * 9 + 7, none⟩ = some (.slice A1 n1 c1) ∧ w.cell? ⟨b, off + i * 9 + 8, none⟩ = some (.slice A2 n2 c2)) fun i hi => by
    obtain ⟨b', off', e', _, _, hcc⟩ := h (fun h0 => by rw [h0] at hi; simp at hi)
    injection e' with e'
    injection e' with e1 e2 e3
    subst e1; subst e2
    obtain ⟨An, cn, k, n, s, t, A0, n0, c0, A1, n1, c1, A2, n2, c2, H⟩ := hcc i _ _ (List.getElem?_eq_getElem (show i < hs.length by omega)) (List.getElem?_eq_getElem hi)
    exact ⟨_, _, List.getElem?_eq_getElem hi, k, n, s, t, A0, n0, c0, A1, n1, c1, A2, n2, c2, rfl, H.rep, H.d2, H.d3, H.d4, H.d5, H.d6, H.d7, H.d8⟩
  refine ⟨cl, ⟨hcl, fun j e c h1 h2 => ?_⟩, fun j c h2 => ?_⟩
  · obtain ⟨e', he, k, n, s, t, A0, n0, c0, A1, n1, c1, A2, n2, c2, rfl, a3, _⟩ := hc j c h2
    obtain rfl : e' = e := Option.some.inj (he.symm.trans h1)
    exact ⟨rfl, one_cells, a3⟩
  · obtain ⟨e', he, k, n, s, t, A0, n0, c0, A1, n1, c1, A2, n2, c2, e, _, r⟩ := hc j c h2
    exact ⟨k, n, s, t, A0, n0, c0, A1, n1, c1, A2, n2, c2, e, r⟩
/-- cells that a row owns are parts in memory -/
theorem CellsOf.partsAt {B base : Nat} {w : World} {l : List Ex} {cl : List (List Value)} {A : Option Addr} {c : Nat} (h : CellsOf B w l cl) (hB : B ≤ w.heap.size) (ho : w.ownsRow base 27 7 (.slice A l.length c) l.length cl.flatten) : PartsAt w.heap.size w A l := fun h0 => by
  rcases ho.2 with ⟨e, hz⟩ | ⟨g, cap, cur, e, hbg, hg, _⟩
  · exact absurd (List.length_eq_zero_iff.1 hz) h0
  · injection e with e1 e2 e3
    subst e1; subst e3
    have hlt : g < w.heap.size := (Array.getElem?_eq_some_iff.1 hg).1
    refine ⟨g, 0, rfl, hlt, hlt, fun j x hx => ?_⟩
    have hj := (List.getElem?_eq_some_iff.1 hx).1
    have hjc : j < cl.length := by rw [h.1]; exact hj
    obtain ⟨a1, a2, a3⟩ := h.2 j x _ hx (List.getElem?_eq_getElem hjc)
    have hcell : ∀ i u, i < 7 → cl[j][i]? = some u → w.cell? ⟨g, 0 + j * 7 + i, none⟩ = some u := fun i u hi hu => by
      rw [Nat.zero_add, ho.cellAt (j * 7 + i) (by omega), cflat_at h.seven j i _ (List.getElem?_eq_getElem hjc) hi, hu]
    obtain ⟨xk, xn, xs, xt, A0, p0, r0, A1, p1, r1, A2, p2, r2, e⟩ := a3.shape
    rw [e] at a3 hcell
    refine ⟨xk, xn, xs, xt, A0, p0, r0, A1, p1, r1, A2, p2, r2, a3.weaken (fun x hx => by omega), hcell 0 _ (by omega) rfl, hcell 1 _ (by omega) rfl, hcell 2 _ (by omega) rfl, hcell 3 _ (by omega) rfl, hcell 4 _ (by omega) rfl, hcell 5 _ (by omega) rfl, hcell 6 _ (by omega) rfl⟩
end Go.Proofs.YtndgoefhhjcllaaGreatDoor
/- The reference's Parts, walked. -/
namespace Go.Proofs.YtndgoefhhjcllaaGreatDoor
open Go.RowKit

/-- what Parts ends with -/
def PartsTo (w : World) (e : Ex) (r : Ending) (w' : World) : Prop := ∃ A c, r = .returned (.slice A e.parts.length c) ∧ PartsAt w'.heap.size w' A e.parts ∧ Below w.heap.size w w'
theorem own_slice {w : World} {base : Nat} {T : TypeId} {size : Nat} {v : Value} {n : Nat} {xs : List Value} (h : w.ownsRow base T size v n xs) : ∃ A c, v = .slice A n c := by
  rcases h.2 with ⟨e, h0⟩ | ⟨g, cap, cur, e, _⟩
  · exact ⟨none, 0, by rw [e, h0]⟩
  · exact ⟨_, _, e⟩
theorem wpList_append_nilE (w : World) {ops : Array Oper} {rest : List Oper} {o : Oper} {a : Act} {Q : Exit → Act → World → Prop} (hgd : o.guard = none) (sl x : Operand)
    (ho : o.op = .call { callee := .builtin .append, args := #[sl, x], argTypes := #[24, 24] }) (g n c : Nat) (hn : n = 0) (hs : a.eval sl = .slice (some ⟨g, 0, none⟩) 0 0) (hx : a.eval x = .slice none n c)
    (h : wpList Tryz.prog ops Q rest (a.put o.dst (.slice (some ⟨g, 0, none⟩) n n)) w) : wpList Tryz.prog ops Q (o :: rest) a w := by
  subst hn
  obtain ⟨i0, hi, _, _, _⟩ := info_parts infoE
  have hrun : (Builtin.append_ #[24, 24] o.type #[.slice (some ⟨g, 0, none⟩) 0 0, .slice none 0 c]).run Tryz.prog w = .ok (.slice (some ⟨g, 0, none⟩) 0 0) w := by
    simp [Builtin.append_, run_underlying Tryz.underlying24, sizeOf, typeInfo, hi, Builtin.lenOf, Builtin.firstCells, storeCells]
  refine wpList_plain hgd fun K hK => ?_
  unfold Oper.wp
  simp [execOp, ho, resolve, invoke, builtin, hs, hx, hrun, Result.andThen]
  exact hK _ _ h
set_option maxRecDepth 100000 in
set_option maxHeartbeats 4000000 in
theorem Parts_any (P : Nat → Prop) (e : Ex) (k n : Int) (s t : ByteArray) (A0 : Option Addr) (n0 c0 : Nat) (A1 : Option Addr) (n1 c1 : Nat) (A2 : Option Addr) (n2 c2 : Nat) (w : World)
    (hre : RepE P w e [.int .i64 k, .int .i64 n, .string s, .string t, .slice A0 n0 c0, .slice A1 n1 c1, .slice A2 n2 c2]) (hl : e.l.length ≤ 1000 ∧ e.bs.length ≤ 1000) :
    Calls Tryz.prog 28 #[.agg #[.int .i64 k, .int .i64 n, .string s, .string t, .slice A0 n0 c0, .slice A1 n1 c1, .slice A2 n2 c2]] w (PartsTo w e) := by
  obtain ⟨i0, hi, hz0, hz1, hz2⟩ := info_parts infoE
  obtain ⟨W1, hW1⟩ : ∃ W1, w.alloc (.cells #[.int .i64 k, .int .i64 n, .string s, .string t, .slice A0 n0 c0, .slice A1 n1 c1, .slice A2 n2 c2] 27) = W1 := ⟨_, rfl⟩
  have HB1 : Hid (Below w.heap.size w W1) := Lib.hid (by rw [← hW1]; exact (Below.refl _ _).alloc (Nat.le_refl _) _)
  have HE1 : Hid (EB W1 w.heap.size (.int .i64 k) (.int .i64 n) (.string s) (.string t) (.slice A0 n0 c0) (.slice A1 n1 c1) (.slice A2 n2 c2)) := Lib.hid (by rw [← hW1]; exact EB.new w _ _ _ _ _ _ _)
  have hz : w.heap.size < W1.heap.size := HE1.out.lt
  have hre1 := (hre.keep (Same.of_below HB1.out)).tight.weaken (Q := fun b => b < W1.heap.size) (fun x hx => hx.2)
  cases e with
  | mk k' n' s' t' ns l ops bs =>
  simp only [Ex.l, Ex.bs] at hl
  obtain ⟨An, cn, Al, cl', Aa, ca, e, hf, hn, hL, hA, ho⟩ := hre1
  simp only [exCells, List.cons.injEq, Value.int.injEq, Value.string.injEq, Value.slice.injEq, and_true, true_and] at e
  obtain ⟨rfl, rfl, rfl, rfl, ⟨rfl, rfl, rfl⟩, ⟨rfl, rfl, rfl⟩, rfl, rfl, rfl⟩ := e
  have hPL : PartsAt W1.heap.size W1 A1 l := parts_of hL
  have hPA : ArmsAt W1.heap.size W1 A2 ops bs := arms_of hA
  obtain ⟨clL, hcL, hmL⟩ : ∃ cl, CellsOf W1.heap.size W1 l cl ∧ (∀ ad, A1 = some ad → ∀ (j : Nat) (u : Value), cl.flatten[j]? = some u → W1.cell? (ad.add j) = some u) := by
    by_cases h0 : l = []
    · subst h0
      exact ⟨[], ⟨rfl, fun j e c h => by simp at h⟩, fun ad _ j u h => by simp at h⟩
    · obtain ⟨b, off, rfl⟩ := hPL.addr (List.length_pos_iff.2 h0)
      obtain ⟨cl, h1, h2⟩ := hPL.cellsOf
      exact ⟨cl, h1, fun ad e j u h => by injection e with e; subst e; rw [add_off]; exact h2 j u h⟩
  obtain ⟨clB, hcB, hmB⟩ : ∃ cl, CellsOf W1.heap.size W1 bs cl ∧ (∀ (j : Nat) (c : List Value), cl[j]? = some c → ∃ b off, A2 = some ⟨b, off, none⟩ ∧ b < W1.heap.size ∧ ∃ k n s t A0 n0 c0 A1 n1 c1 A2 n2 c2, c = [.int .i64 k, .int .i64 n, .string s, .string t, .slice A0 n0 c0, .slice A1 n1 c1, .slice A2 n2 c2] ∧
      W1.cell? ⟨b, off + j * 9 + 2, none⟩ = some (.int .i64 k) ∧ W1.cell? ⟨b, off + j * 9 + 3, none⟩ = some (.int .i64 n) ∧ W1.cell? ⟨b, off + j * 9 + 4, none⟩ = some (.string s) ∧ W1.cell? ⟨b, off + j * 9 + 5, none⟩ = some (.string t) ∧ W1.cell? ⟨b, off + j * 9 + 6, none⟩ = some (.slice A0 n0 c0) ∧ W1.cell? ⟨b, off + j * 9 + 7, none⟩ = some (.slice A1 n1 c1) ∧ W1.cell? ⟨b, off + j * 9 + 8, none⟩ = some (.slice A2 n2 c2)) := by
    by_cases h0 : bs = []
    · subst h0
      exact ⟨[], ⟨rfl, fun j e c h => by simp at h⟩, fun j c h => by simp at h⟩
    · obtain ⟨b, off, rfl, _, hlt, _⟩ := hPA h0
      obtain ⟨cl, h1, h2⟩ := hPA.cellsOf ho
      exact ⟨cl, h1, fun j c h => ⟨b, off, rfl, hlt, h2 j c h⟩⟩
  have HCL := Lib.hid hcL
  have HML := Lib.hid hmL
  have HCB := Lib.hid hcB
  have HMB := Lib.hid hmB
  have HNl : Hid (A1 = none → l.length = 0) := Lib.hid (fun h => by
    by_cases h0 : l = []
    · rw [h0]; rfl
    · obtain ⟨b, off, e⟩ := hPL.addr (List.length_pos_iff.2 h0)
      rw [h] at e; cases e)
  obtain ⟨nl, hnl⟩ : ∃ q, q = l.length := ⟨_, rfl⟩
  obtain ⟨nb, hnb⟩ : ∃ q, q = bs.length := ⟨_, rfl⟩
  have HNL := Lib.hid hnl
  have HNB := Lib.hid hnb
  have HFL : Hid (clL.flatten.length = nl * 7) := Lib.hid (by rw [cflat_len hcL.seven, hcL.1, hnl])
  obtain ⟨hl1, hl2⟩ := hl
  rw [← hnl] at hl1 hW1 HE1 HNl ⊢
  rw [← hnb] at hl2 hW1 HE1 ⊢
  have e5 := HE1.out.c5
  clear hre hL hA hPL hPA hcL hmL hcB hmB hnl hnb hf hn ho
  have HO1 : Hid ((W1.alloc (.cells #[] 27)).ownsRow W1.heap.size 27 7 (.slice (some ⟨W1.heap.size, 0, none⟩) 0 0) 0 []) := Lib.hid ⟨rfl, .inr ⟨W1.heap.size, 0, #[], rfl, Nat.le_refl _, heap_alloc_new W1 _, Nat.le_refl _, Nat.zero_le _, rfl, rfl⟩⟩
  have HBA : Hid (Below W1.heap.size W1 (W1.alloc (.cells #[] 27))) := Lib.hid ((Below.refl _ _).alloc (Nat.le_refl _) _)
  have HMb : Hid (∀ ad, A1 = some ad → ∀ (j : Nat) (u : Value), clL.flatten[j]? = some u → (W1.alloc (.cells #[] 27)).cell? (ad.add j) = some u) := Lib.hid (fun ad e j u h => by
    have h1 := HML.out ad e j u h
    exact (HBA.out.cell (World.block_lt_of_cell? W1 _ h1)).trans h1)
  go_enter Tryz.func28, Tryz.ntmps28
  rcases A1 with _ | ad
  · have HN0 := Lib.hid (HNl.out rfl)
    go_wp2_with (at_builtin; refine wpList_append_nilE _ rfl _ _ rfl W1.heap.size nl c1 HN0.out rfl rfl ?_)
    have HO2 : Hid ((W1.alloc (.cells #[] 27)).ownsRow W1.heap.size 27 7 (.slice (some ⟨W1.heap.size, 0, none⟩) nl nl) nl clL.flatten) := Lib.hid (by
      have h1 := HO1.out
      have h2 : clL.flatten = [] := List.eq_nil_of_length_eq_zero (by rw [HFL.out, HN0.out])
      rw [h2, HN0.out]; exact h1)
    have HB2 := HBA
    obtain ⟨A', hA'⟩ : ∃ A', A' = some (⟨W1.heap.size, 0, none⟩ : Addr) := ⟨_, rfl⟩
    obtain ⟨c', hc'⟩ : ∃ c', c' = nl := ⟨_, rfl⟩
    obtain ⟨w2, hw2⟩ : ∃ w2, w2 = W1.alloc (.cells #[] 27) := ⟨_, rfl⟩
    rw [show (Value.slice (some ⟨W1.heap.size, 0, none⟩) nl nl) = .slice A' nl c' by rw [hA', hc']] at HO2 ⊢
    rw [← hw2] at HO2 HB2 ⊢
    clear hA' hc' hw2 HO1 HBA HMb
    go_loopw [3, 4] (fun v i wr => ∃ (kk : Nat) (A : Option Addr) (c : Nat), kk ≤ nb ∧ i = .int .i64 (kk : Int) ∧ v = .slice A (nl + kk) c ∧ Hid (wr.ownsRow W1.heap.size 27 7 (.slice A (nl + kk) c) (nl + kk) (clL ++ clB.take kk).flatten) ∧ Hid (Below W1.heap.size W1 wr)) (fun _ i _ => nb - (intOf i).toNat)
    case atStart => exact ⟨0, A', c', Nat.zero_le _, rfl, rfl, Lib.hid (by rw [List.take_zero, List.append_nil]; exact HO2.out), HB2⟩
    case round =>
      obtain ⟨kk, A, c, hkk, rfl, rfl, hO, hB⟩ := hrel
      have j0 : (0 : Int) ≤ (kk : Int) := by omega
      have hzr : w.heap.size < wr.heap.size := Nat.lt_of_lt_of_le hz hB.out.size
      have HEr := Lib.hid (HE1.out.kept (grown_below hB.out none) (by simp))
      have g6 := HEr.out.c6
      by_cases hkl : kk < nb
      · have j1 : (kk : Int) < (nb : Int) := by omega
        have hkc : kk < clB.length := by rw [HCB.out.1, ← HNB.out]; exact hkl
        obtain ⟨b, off, rfl, hlt, k0, n0', s0, t0, B0, q0, r0, B1, q1, r1, B2, q2, r2, hce, d0, d1, d2, d3, d4, d5, d6⟩ := HMB.out kk _ (List.getElem?_eq_getElem hkc)
        have hltr : b < wr.heap.size := Nat.lt_of_lt_of_le hlt hB.out.size
        have f0 := (hB.out.cell (p := ⟨b, _, none⟩) hlt).trans d0
        have f1 := (hB.out.cell (p := ⟨b, _, none⟩) hlt).trans d1
        have f2 := (hB.out.cell (p := ⟨b, _, none⟩) hlt).trans d2
        have f3 := (hB.out.cell (p := ⟨b, _, none⟩) hlt).trans d3
        have f4 := (hB.out.cell (p := ⟨b, _, none⟩) hlt).trans d4
        have f5 := (hB.out.cell (p := ⟨b, _, none⟩) hlt).trans d5
        have f6 := (hB.out.cell (p := ⟨b, _, none⟩) hlt).trans d6
        have HFk : Hid ((clL ++ clB.take (kk + 1)).flatten = (clL ++ clB.take kk).flatten ++ [.int .i64 k0, .int .i64 n0', .string s0, .string t0, .slice B0 q0 r0, .slice B1 q1 r1, .slice B2 q2 r2]) := Lib.hid (by
          rw [take_succ_of hkc, ← List.append_assoc, List.flatten_append, hce]; simp)
        have HNc : Hid (∀ (j : Nat) (u : Value), ([Value.int .i64 k0, .int .i64 n0', .string s0, .string t0, .slice B0 q0 r0, .slice B1 q1 r1, .slice B2 q2 r2] : List Value)[j]? = some u → (wr.alloc (.cells #[.int .i64 k0, .int .i64 n0', .string s0, .string t0, .slice B0 q0 r0, .slice B1 q1 r1, .slice B2 q2 r2] 27)).cell? ((⟨wr.heap.size, 0, none⟩ : Addr).add j) = some u) := Lib.hid (fun j u h => by
          rw [add_off, Nat.zero_add]
          have := heap_alloc_new wr (.cells #[.int .i64 k0, .int .i64 n0', .string s0, .string t0, .slice B0 q0 r0, .slice B1 q1 r1, .slice B2 q2 r2] 27)
          simp only [World.cell?, this]
          simpa using h)
        have HOa := Lib.hid (hO.out.alloc (.cells #[.int .i64 k0, .int .i64 n0', .string s0, .string t0, .slice B0 q0 r0, .slice B1 q1 r1, .slice B2 q2 r2] 27))
        clear d0 d1 d2 d3 d4 d5 d6 hce
        go_wp2_with (at_builtin; refine wpList_append_own _ rfl _ _ 24 rfl W1.heap.size 27 i0 (.agg #[.int .i64 0, .int .i64 0, .string ⟨#[]⟩, .string ⟨#[]⟩, .slice none 0 0, .slice none 0 0, .slice none 0 0]) 7 120 Tryz.underlying24 hi hz0 hz1 hz2 rfl (by decide) _ _ _ rfl HOa.out ⟨wr.heap.size, 0, none⟩ 1 1 [.int .i64 k0, .int .i64 n0', .string s0, .string t0, .slice B0 q0 r0, .slice B1 q1 r1, .slice B2 q2 r2] rfl rfl HNc.out one_cells (by unfold maxLen; omega) (by omega) (by have := hB.out.size; simp; omega) ?_; intro v' w2 hown' hgrow _; obtain ⟨A3, c3, rfl⟩ := own_slice hown'; have HO3 := Lib.hid hown'; have HG3 := Lib.hid hgrow; clear hown' hgrow)
        have HB3 : Hid (Below W1.heap.size W1 w2) := Lib.hid ((hB.out.alloc hB.out.size _).grown HG3.out (by have := hB.out.size; simp; omega) (fun q e => (HOa.out.lt q e).1))
        go_roundw
        case rel => exact ⟨kk + 1, A3, c3, by omega, by go_num, rfl, Lib.hid (by rw [HFk.out]; exact HO3.out), HB3⟩
        case measure => simp [intOf]; omega
      · obtain rfl : kk = nb := by omega
        have HPt : Hid (PartsTo w (.mk k n s' t' ns l ops bs) (.returned (.slice A (nl + kk) c)) wr) := Lib.hid (by
          have hcc : CellsOf W1.heap.size wr (l ++ bs) (clL ++ clB) := (HCL.out.append HCB.out).keep (Same.of_below hB.out)
          have h1 := hO.out
          have hlen : nl + kk = (l ++ bs).length := by rw [List.length_append, HNL.out, HNB.out]
          rw [show clB.take kk = clB from List.take_of_length_le (by rw [HCB.out.1, HNB.out]; exact Nat.le_refl _), hlen] at h1
          refine ⟨A, c, by rw [hlen]; rfl, hcc.partsAt hB.out.size h1, HB1.out.trans (hB.out.mono HB1.out.size)⟩)
        go_wp2_with fail
        go_ret
        exact HPt.out
  · have HMa := Lib.hid (HMb.out ad rfl)
    go_wp2_with (at_builtin; refine wpList_append_own _ rfl _ _ 24 rfl W1.heap.size 27 i0 (.agg #[.int .i64 0, .int .i64 0, .string ⟨#[]⟩, .string ⟨#[]⟩, .slice none 0 0, .slice none 0 0, .slice none 0 0]) 7 120 Tryz.underlying24 hi hz0 hz1 hz2 rfl (by decide) _ _ _ rfl HO1.out ad nl c1 clL.flatten rfl HFL.out HMa.out HCL.out.one (by unfold maxLen; omega) (by omega) (by simp) ?_; intro v' w2 hown' hgrow _; have hown2 : w2.ownsRow W1.heap.size 27 7 v' nl clL.flatten := (by simpa using hown'); obtain ⟨A', c', rfl⟩ := own_slice hown2; have HO2 := Lib.hid hown2; have HG2 := Lib.hid hgrow; clear hown' hown2 hgrow)
    have HB2 : Hid (Below W1.heap.size W1 w2) := Lib.hid (HBA.out.grown HG2.out (by simp) (fun q e => (HO1.out.lt q e).1))
    clear HO1 HBA HMb HMa HG2
    go_loopw [3, 4] (fun v i wr => ∃ (kk : Nat) (A : Option Addr) (c : Nat), kk ≤ nb ∧ i = .int .i64 (kk : Int) ∧ v = .slice A (nl + kk) c ∧ Hid (wr.ownsRow W1.heap.size 27 7 (.slice A (nl + kk) c) (nl + kk) (clL ++ clB.take kk).flatten) ∧ Hid (Below W1.heap.size W1 wr)) (fun _ i _ => nb - (intOf i).toNat)
    case atStart => exact ⟨0, A', c', Nat.zero_le _, rfl, rfl, Lib.hid (by rw [List.take_zero, List.append_nil]; exact HO2.out), HB2⟩
    case round =>
      obtain ⟨kk, A, c, hkk, rfl, rfl, hO, hB⟩ := hrel
      have j0 : (0 : Int) ≤ (kk : Int) := by omega
      have hzr : w.heap.size < wr.heap.size := Nat.lt_of_lt_of_le hz hB.out.size
      have HEr := Lib.hid (HE1.out.kept (grown_below hB.out none) (by simp))
      have g6 := HEr.out.c6
      by_cases hkl : kk < nb
      · have j1 : (kk : Int) < (nb : Int) := by omega
        have hkc : kk < clB.length := by rw [HCB.out.1, ← HNB.out]; exact hkl
        obtain ⟨b, off, rfl, hlt, k0, n0', s0, t0, B0, q0, r0, B1, q1, r1, B2, q2, r2, hce, d0, d1, d2, d3, d4, d5, d6⟩ := HMB.out kk _ (List.getElem?_eq_getElem hkc)
        have hltr : b < wr.heap.size := Nat.lt_of_lt_of_le hlt hB.out.size
        have f0 := (hB.out.cell (p := ⟨b, _, none⟩) hlt).trans d0
        have f1 := (hB.out.cell (p := ⟨b, _, none⟩) hlt).trans d1
        have f2 := (hB.out.cell (p := ⟨b, _, none⟩) hlt).trans d2
        have f3 := (hB.out.cell (p := ⟨b, _, none⟩) hlt).trans d3
        have f4 := (hB.out.cell (p := ⟨b, _, none⟩) hlt).trans d4
        have f5 := (hB.out.cell (p := ⟨b, _, none⟩) hlt).trans d5
        have f6 := (hB.out.cell (p := ⟨b, _, none⟩) hlt).trans d6
        have HFk : Hid ((clL ++ clB.take (kk + 1)).flatten = (clL ++ clB.take kk).flatten ++ [.int .i64 k0, .int .i64 n0', .string s0, .string t0, .slice B0 q0 r0, .slice B1 q1 r1, .slice B2 q2 r2]) := Lib.hid (by
          rw [take_succ_of hkc, ← List.append_assoc, List.flatten_append, hce]; simp)
        have HNc : Hid (∀ (j : Nat) (u : Value), ([Value.int .i64 k0, .int .i64 n0', .string s0, .string t0, .slice B0 q0 r0, .slice B1 q1 r1, .slice B2 q2 r2] : List Value)[j]? = some u → (wr.alloc (.cells #[.int .i64 k0, .int .i64 n0', .string s0, .string t0, .slice B0 q0 r0, .slice B1 q1 r1, .slice B2 q2 r2] 27)).cell? ((⟨wr.heap.size, 0, none⟩ : Addr).add j) = some u) := Lib.hid (fun j u h => by
          rw [add_off, Nat.zero_add]
          have := heap_alloc_new wr (.cells #[.int .i64 k0, .int .i64 n0', .string s0, .string t0, .slice B0 q0 r0, .slice B1 q1 r1, .slice B2 q2 r2] 27)
          simp only [World.cell?, this]
          simpa using h)
        have HOa := Lib.hid (hO.out.alloc (.cells #[.int .i64 k0, .int .i64 n0', .string s0, .string t0, .slice B0 q0 r0, .slice B1 q1 r1, .slice B2 q2 r2] 27))
        clear d0 d1 d2 d3 d4 d5 d6 hce
        go_wp2_with (at_builtin; refine wpList_append_own _ rfl _ _ 24 rfl W1.heap.size 27 i0 (.agg #[.int .i64 0, .int .i64 0, .string ⟨#[]⟩, .string ⟨#[]⟩, .slice none 0 0, .slice none 0 0, .slice none 0 0]) 7 120 Tryz.underlying24 hi hz0 hz1 hz2 rfl (by decide) _ _ _ rfl HOa.out ⟨wr.heap.size, 0, none⟩ 1 1 [.int .i64 k0, .int .i64 n0', .string s0, .string t0, .slice B0 q0 r0, .slice B1 q1 r1, .slice B2 q2 r2] rfl rfl HNc.out one_cells (by unfold maxLen; omega) (by omega) (by have := hB.out.size; simp; omega) ?_; intro v' w2 hown' hgrow _; obtain ⟨A3, c3, rfl⟩ := own_slice hown'; have HO3 := Lib.hid hown'; have HG3 := Lib.hid hgrow; clear hown' hgrow)
        have HB3 : Hid (Below W1.heap.size W1 w2) := Lib.hid ((hB.out.alloc hB.out.size _).grown HG3.out (by have := hB.out.size; simp; omega) (fun q e => (HOa.out.lt q e).1))
        go_roundw
        case rel => exact ⟨kk + 1, A3, c3, by omega, by go_num, rfl, Lib.hid (by rw [HFk.out]; exact HO3.out), HB3⟩
        case measure => simp [intOf]; omega
      · obtain rfl : kk = nb := by omega
        have HPt : Hid (PartsTo w (.mk k n s' t' ns l ops bs) (.returned (.slice A (nl + kk) c)) wr) := Lib.hid (by
          have hcc : CellsOf W1.heap.size wr (l ++ bs) (clL ++ clB) := (HCL.out.append HCB.out).keep (Same.of_below hB.out)
          have h1 := hO.out
          have hlen : nl + kk = (l ++ bs).length := by rw [List.length_append, HNL.out, HNB.out]
          rw [show clB.take kk = clB from List.take_of_length_le (by rw [HCB.out.1, HNB.out]; exact Nat.le_refl _), hlen] at h1
          refine ⟨A, c, by rw [hlen]; rfl, hcc.partsAt hB.out.size h1, HB1.out.trans (hB.out.mono HB1.out.size)⟩)
        go_wp2_with fail
        go_ret
        exact HPt.out
end Go.Proofs.YtndgoefhhjcllaaGreatDoor
/- Parts of a well-formed expression: their sizes, depths and texts. -/
namespace Go.Proofs.YtndgoefhhjcllaaGreatDoor
open Go.RowKit

/-- a piece list lies within another, with so much beside it -/
def Sub (q ps : List Txt) (n : Nat) : Prop := ∃ a b, ps = a ++ (q ++ b) ∧ n ≤ tot a + tot b
theorem Sub.self (q : List Txt) : Sub q q 0 := ⟨[], [], by simp, Nat.zero_le _⟩
theorem Sub.left {q xs : List Txt} {n : Nat} (h : Sub q xs n) (ys : List Txt) : Sub q (xs ++ ys) (n + tot ys) := by
  obtain ⟨a, b, rfl, hn⟩ := h
  exact ⟨a, b ++ ys, by simp, by rw [tot_append]; omega⟩
theorem Sub.right {q ys : List Txt} {n : Nat} (xs : List Txt) (h : Sub q ys n) : Sub q (xs ++ ys) (tot xs + n) := by
  obtain ⟨a, b, rfl, hn⟩ := h
  exact ⟨xs ++ a, b, by simp, by rw [tot_append]; omega⟩
theorem Sub.mono {q ps : List Txt} {n k : Nat} (h : Sub q ps n) (hk : k ≤ n) : Sub q ps k := by
  obtain ⟨a, b, e, hn⟩ := h
  exact ⟨a, b, e, by omega⟩
theorem Sub.atP (a : Int) (q : LvP) : Sub q.2 (atP a q) 0 := by
  unfold Proofs.YtndgoefhhjcllaaGreatDoor.atP
  split
  · exact Sub.self _
  · exact ((Sub.self q.2).left [[41]] |>.right [[40]]).mono (Nat.zero_le _)
theorem Sub.behind : ∀ (l : List LvP) (ts : List Txt) (q : LvP), q ∈ l → l.length ≤ ts.length → (∀ t ∈ ts, 0 < t.length) → Sub q.2 (behindP l ts) 1
  | [], _, _, h, _, _ => by simp at h
  | a :: r, [], _, _, hl, _ => by simp at hl
  | a :: r, t :: ts, q, h, hl, ht => by
    have h1 := ht t (by simp)
    have h2 : tot [t] = t.length := rfl
    unfold behindP
    rcases List.mem_cons.1 h with rfl | h
    · exact (((Sub.atP 0 q).left (behindP r ts)).right [t]).mono (by omega)
    · exact (((Sub.behind r ts q h (by simpa using hl) (fun x hx => ht x (by simp [hx]))).right (Proofs.YtndgoefhhjcllaaGreatDoor.atP 0 a)).right [t]).mono (by omega)
theorem Sub.list (sep : Txt) : ∀ (xs : List (List Txt)) (q : List Txt), (∃ x ∈ xs, Sub q x 0) → Sub q (listP sep xs) 0
  | [], q, h => by obtain ⟨x, hx, _⟩ := h; simp at hx
  | y :: r, q, h => by
    obtain ⟨x, hx, hs⟩ := h
    unfold listP
    rcases List.mem_cons.1 hx with rfl | hx
    · exact (hs.left _).mono (Nat.zero_le _)
    · have key : ∀ r : List (List Txt), x ∈ r → Sub q (r.flatMap fun y => [sep] ++ y) 0 := by
        intro r
        induction r with
        | nil => intro h; simp at h
        | cons z r ih =>
          intro h
          rw [List.flatMap_cons]
          rcases List.mem_cons.1 h with rfl | h
          · exact ((hs.right [sep]).left _).mono (Nat.zero_le _)
          · exact ((ih h).right _).mono (Nat.zero_le _)
      exact ((key r hx).right _).mono (Nat.zero_le _)
theorem nth_mem {l : List LvP} {q : LvP} (h : q ∈ l) (h1 : l.length ≤ 1) : nth l 0 = q := by
  cases l with
  | nil => simp at h
  | cons a r =>
    cases r with
    | nil => simp at h; rw [h]; rfl
    | cons b r => simp at h1
theorem nth_mem2 {l : List LvP} {q : LvP} (h : q ∈ l) (h1 : l.length ≤ 2) : nth l 0 = q ∨ nth l 1 = q := by
  cases l with
  | nil => simp at h
  | cons a r =>
    rcases List.mem_cons.1 h with rfl | h
    · exact .inl rfl
    · cases r with
      | nil => simp at h
      | cons b r =>
        cases r with
        | nil => simp at h; exact .inr h.symm
        | cons c r => simp at h1
theorem Sub.braces {hs : List (Txt × List Txt)} {l : List LvP} {q : LvP} (h : q ∈ l) (hl : hs.length = l.length) : Sub q.2 (bracesP hs l) 1 := by
  obtain ⟨j, hj, rfl⟩ := List.getElem_of_mem h
  unfold bracesP
  have h1 : Sub l[j].2 (armP (hs[j]'(by omega)) l[j]) 0 := by
    unfold armP
    exact ((((Sub.atP 0 l[j]).right _).right _).right _).mono (Nat.zero_le _)
  have h2 := Sub.list [59, 32] (List.zipWith armP hs l) l[j].2 ⟨_, List.mem_iff_getElem.2 ⟨j, by rw [List.length_zipWith]; omega, List.getElem_zipWith⟩, h1⟩
  have h3 : tot [([123, 32] : Txt)] = 2 := rfl
  exact ((h2.left _).right [[123, 32]]).mono (by omega)
theorem Sub.braced1 {ps : List Txt} {q : LvP} {ops : List (Txt × List Txt)} {bs : List LvP} : Sub q.2 (bracedP ps q ops bs) 1 := by
  unfold bracedP
  have h3 : tot [([32] : Txt)] = 1 := rfl
  exact ((((Sub.atP 0 q).left _).right [[32]]).right ps).mono (by omega)
theorem Sub.braced2 {ps : List Txt} {p q : LvP} {ops : List (Txt × List Txt)} {bs : List LvP} (h : q ∈ bs) (hl : ops.length = bs.length) : Sub q.2 (bracedP ps p ops bs) 1 := by
  unfold bracedP
  exact (((((Sub.braces h hl).right [[32]]).right _).right [[32]]).right ps).mono (by omega)
theorem nodeP_sub {k n : Int} {s t : Txt} {ns : List Txt} {hs : List (Txt × List Txt)} {kn nl nb : Nat} (H : Shape k n s t ns nl nb hs kn) (l : List LvP) (ops : List (Txt × List Txt)) (bs : List LvP) (hl : l.length = nl) (hb : bs.length = nb) (ho : ops.length = bs.length) (q : LvP) (hq : q ∈ l ∨ q ∈ bs) : Sub q.2 (nodeP k n s t ns l ops bs) 1 := by
  obtain ⟨rfl, lt, num, s1, _, _, parts, room, _, _⟩ := H
  have hp := cnt_ge parts
  subst hl; subst hb
  have hroom : ∀ a, useOf kn 7 = a → a = 0 → bs = [] := fun a h1 h2 => by
    unfold roomB at room
    rw [h1, h2] at room
    have h3 : (((bs.length : Nat) : Int) == 0) = true := by
      cases hh : (((bs.length : Nat) : Int) == 0) with
      | true => rfl
      | false => rw [hh] at room; simp at room
    exact List.length_eq_zero_iff.1 (by have := beq_iff_eq.1 h3; omega)
  have no : ∀ a b, useOf kn 5 = a → useOf kn 6 = b → a + b = 0 → l = [] := fun a b h1 h2 h3 => by
    rw [h1, h2] at hp
    exact List.length_eq_zero_iff.1 (by omega)
  have le : ∀ a b (c : Nat), useOf kn 5 = a → useOf kn 6 = b → a + b = (c : Int) → l.length ≤ c := fun a b c h1 h2 h3 => by
    rw [h1, h2] at hp; omega
  have t32 : tot [([32] : Txt)] = 1 := rfl
  obtain rfl | rfl | rfl | rfl | rfl | rfl | rfl | rfl | rfl | rfl | rfl | rfl | rfl | rfl | rfl | rfl | rfl | rfl | rfl | rfl : kn = 0 ∨ kn = 1 ∨ kn = 2 ∨ kn = 3 ∨ kn = 4 ∨ kn = 5 ∨ kn = 6 ∨ kn = 7 ∨ kn = 8 ∨ kn = 9 ∨ kn = 10 ∨ kn = 11 ∨ kn = 12 ∨ kn = 13 ∨ kn = 14 ∨ kn = 15 ∨ kn = 16 ∨ kn = 17 ∨ kn = 18 ∨ kn = 19 := by omega
  · rw [no 0 0 (by decide) (by decide) rfl, hroom 0 (by decide) rfl] at hq; simp at hq
  · rw [no 0 0 (by decide) (by decide) rfl, hroom 0 (by decide) rfl] at hq; simp at hq
  · rw [no 0 0 (by decide) (by decide) rfl, hroom 0 (by decide) rfl] at hq; simp at hq
  · rw [no 0 0 (by decide) (by decide) rfl, hroom 0 (by decide) rfl] at hq; simp at hq
  · rw [hroom 0 (by decide) rfl] at hq
    exact (((Sub.behind l [[32, 45, 62, 32]] q (by simpa using hq) (le 1 0 1 (by decide) (by decide) rfl) (by decide)).right _).right _).mono (by omega)
  · rw [hroom 0 (by decide) rfl] at hq
    rcases nth_mem2 (q := q) (by simpa using hq) (le 2 0 2 (by decide) (by decide) rfl) with h | h
    · show Sub q.2 (atP 4 (nth l 0) ++ ([[32]] ++ atP 5 (nth l 1))) 1
      rw [h]; exact ((Sub.atP 4 q).left _).mono (by rw [tot_append]; omega)
    · show Sub q.2 (atP 4 (nth l 0) ++ ([[32]] ++ atP 5 (nth l 1))) 1
      rw [h]; exact (((Sub.atP 5 q).right _).right _).mono (by omega)
  · rw [hroom 0 (by decide) rfl] at hq
    exact (((Sub.behind l [[32, 61, 32], [32, 105, 110, 32]] q (by simpa using hq) (le 2 0 2 (by decide) (by decide) rfl) (by decide)).right _).right _).mono (by omega)
  · rw [hroom 0 (by decide) rfl] at hq
    exact (((Sub.behind l [[32, 61, 32], [32, 105, 110, 32]] q (by simpa using hq) (le 2 0 2 (by decide) (by decide) rfl) (by decide)).right _).right _).mono (by omega)
  · rw [hroom 0 (by decide) rfl] at hq
    exact Sub.behind l [[105, 102, 32], [32, 116, 104, 101, 110, 32], [32, 101, 108, 115, 101, 32]] q (by simpa using hq) (le 3 0 3 (by decide) (by decide) rfl) (by decide)
  · rw [hroom 0 (by decide) rfl] at hq
    have t3 : 1 ≤ tot [[32], s, [32]] := by show 1 ≤ 1 + (s.length + 1); omega
    rcases nth_mem2 (q := q) (by simpa using hq) (le 2 0 2 (by decide) (by decide) rfl) with h | h
    · show Sub q.2 (atP (operandLv ((opLv s).getD 0)) (nth l 0) ++ ([[32], s, [32]] ++ atP ((opLv s).getD 0 + 1) (nth l 1))) 1
      rw [h]; exact ((Sub.atP _ q).left _).mono (by rw [tot_append]; omega)
    · show Sub q.2 (atP (operandLv ((opLv s).getD 0)) (nth l 0) ++ ([[32], s, [32]] ++ atP ((opLv s).getD 0 + 1) (nth l 1))) 1
      rw [h]; exact (((Sub.atP _ q).right _).right _).mono (by omega)
  · rw [hroom 0 (by decide) rfl] at hq
    have hq' : q ∈ l := by simpa using hq
    show Sub q.2 ([s] ++ (if l.length = 0 then [] else [[91]] ++ (listP [44, 32] (l.map (atP 0)) ++ [[93]]))) 1
    rw [if_neg (fun h => by rw [List.length_eq_zero_iff.1 h] at hq'; simp at hq')]
    have h1 := Sub.list [44, 32] (l.map (atP 0)) q.2 ⟨_, List.mem_map_of_mem hq', Sub.atP 0 q⟩
    have h2 : tot [([91] : Txt)] = 1 := rfl
    exact (((h1.left _).right [[91]]).right [s]).mono (by omega)
  · rcases hq with hq | hq
    · show Sub q.2 (bracedP _ (nth l 0) ops bs) 1
      rw [nth_mem hq (le 1 0 1 (by decide) (by decide) rfl)]; exact Sub.braced1
    · exact Sub.braced2 hq ho
  · rw [hroom 0 (by decide) rfl] at hq
    show Sub q.2 (callP _ (nth l 0)) 1
    rw [nth_mem (q := q) (by simpa using hq) (le 1 0 1 (by decide) (by decide) rfl)]
    exact (((Sub.atP 5 q).right [[32]]).right _).mono (by omega)
  · rw [hroom 0 (by decide) rfl] at hq
    show Sub q.2 (callP _ (nth l 0)) 1
    rw [nth_mem (q := q) (by simpa using hq) (le 1 0 1 (by decide) (by decide) rfl)]
    exact (((Sub.atP 5 q).right [[32]]).right _).mono (by omega)
  · rcases hq with hq | hq
    · show Sub q.2 (bracedP _ (nth l 0) ops bs) 1
      rw [nth_mem hq (le 1 0 1 (by decide) (by decide) rfl)]; exact Sub.braced1
    · exact Sub.braced2 hq ho
  · rcases hq with hq | hq
    · show Sub q.2 (bracedP _ (nth l 0) ops bs) 1
      rw [nth_mem hq (le 1 0 1 (by decide) (by decide) rfl)]; exact Sub.braced1
    · exact Sub.braced2 hq ho
  · rw [hroom 0 (by decide) rfl] at hq
    show Sub q.2 (callP _ (nth l 0)) 1
    rw [nth_mem (q := q) (by simpa using hq) (le 1 0 1 (by decide) (by decide) rfl)]
    exact (((Sub.atP 5 q).right [[32]]).right _).mono (by omega)
  · rw [hroom 0 (by decide) rfl] at hq
    exact ((Sub.behind l [[32, 61, 32], [32, 99, 108, 111, 115, 101, 32], [32, 105, 110, 32]] q (by simpa using hq) (le 3 0 3 (by decide) (by decide) rfl) (by decide)).right _).mono (by omega)
  · rw [hroom 0 (by decide) rfl] at hq
    show Sub q.2 (callP _ (nth l 0)) 1
    rw [nth_mem (q := q) (by simpa using hq) (le 1 0 1 (by decide) (by decide) rfl)]
    exact (((Sub.atP 5 q).right [[32]]).right _).mono (by omega)
  · rw [no 0 0 (by decide) (by decide) rfl, hroom 0 (by decide) rfl] at hq; simp at hq
/-- a part's text lies within the whole's, which is longer -/
theorem part_text {e x : Ex} (h : wfE e) (ho : e.ops.length = e.bs.length) (hx : x ∈ e.parts) : ∃ a b, textE e = a ++ (textE x ++ b) ∧ 0 < a.length + b.length := by
  cases e with
  | mk k n s t ns l ops bs =>
  obtain ⟨h0, h1, h2⟩ := h.parts
  obtain ⟨kn, H⟩ := shape_of h0
  have hq : x.lp ∈ l.map Ex.lp ∨ x.lp ∈ bs.map Ex.lp := by
    rcases List.mem_append.1 (show x ∈ l ++ bs from hx) with h | h
    · exact .inl (List.mem_map_of_mem h)
    · exact .inr (List.mem_map_of_mem h)
  obtain ⟨a, b, e, hn⟩ := nodeP_sub H (l.map Ex.lp) ops (bs.map Ex.lp) (List.length_map ..) (List.length_map ..) (by rw [List.length_map]; exact ho) x.lp hq
  refine ⟨a.flatten, b.flatten, ?_, by rw [flatten_len, flatten_len]; omega⟩
  unfold textE
  rw [pcs_mk, e, List.flatten_append, List.flatten_append]
  rfl

/-- the greatest level among nodes -/
def maxD : Int → List (Int × Ex) → Int
  | m, [] => m
  | m, (d, _) :: r => maxD (max m d) r
theorem maxD_append (m : Int) (a b : List (Int × Ex)) : maxD m (a ++ b) = maxD (maxD m a) b := by
  induction a generalizing m with
  | nil => rfl
  | cons x r ih => obtain ⟨d, x⟩ := x; exact ih _
theorem maxD_ge (m : Int) (a : List (Int × Ex)) : m ≤ maxD m a := by
  induction a generalizing m with
  | nil => exact Int.le_refl _
  | cons x r ih => obtain ⟨d, x⟩ := x; have := ih (max m d); unfold maxD; omega
mutual
theorem maxD_E : ∀ (e : Ex) (m d : Int), maxD m (nodesE d e) = max m (d - 1 + hE e)
  | .mk k n s t ns l ops bs, m, d => by
    have h1 := maxD_L l (max m d) (d + 1) (by omega)
    have h2 := maxD_L bs (max (max m d) (d + 1 - 1 + hL l)) (d + 1) (by omega)
    simp only [nodesE, maxD, maxD_append]
    rw [h1, h2]
    simp only [hE]
    omega
theorem maxD_L : ∀ (l : List Ex) (m d : Int), d - 1 ≤ m → maxD m (nodesL d l) = max m (d - 1 + hL l)
  | [], m, d, h => by simp [nodesL, maxD, hL]; omega
  | x :: r, m, d, h => by
    have h1 := maxD_E x m d
    have h2 := maxD_L r (max m (d - 1 + hE x)) d (by omega)
    simp only [nodesL, maxD_append, hL]
    rw [h1, h2]
    omega
end
theorem measF_maxD : ∀ (L : List (Int × Ex)) (s m : Int), (measF s m L).1 ≤ 3000 → (measF s m L).2 ≤ 200 → (measF s m L).2 = maxD m L
  | [], s, m, _, _ => by simp [measF, maxD]
  | (d, x) :: r, s, m, h1, h2 => by
    unfold measF at h1 h2 ⊢
    split at h1
    · rename_i hc
      rw [if_pos hc] at h2
      simp only at h1 h2
      omega
    · rename_i hc
      rw [if_neg hc] at h2 ⊢
      exact measF_maxD r _ _ h1 h2
theorem measF_val : ∀ (L : List (Int × Ex)) (s m : Int), s + L.length ≤ 3000 → maxD m L ≤ 200 → measF s m L = (s + L.length, maxD m L)
  | [], s, m, _, _ => by simp [measF, maxD]
  | (d, x) :: r, s, m, h1, h2 => by
    unfold measF maxD at *
    have h3 := maxD_ge (max m d) r
    rw [List.length_cons] at h1
    rw [if_neg (by omega), measF_val r (s + 1) (max m d) (by omega) h2, List.length_cons]
    congr 1
    omega
/-- what Check, Size and Depth say of a tree that is accepted -/
theorem msd_iff {e : Ex} : (msd chkN e).2.2 = 0 ↔ wfE e ∧ (nodesE 1 e).length ≤ 3000 ∧ hE e ≤ 200 := by
  have hm := maxD_E e 0 1
  constructor
  · intro h
    obtain ⟨h1, h2, h3, h4⟩ := msd_ok h
    refine ⟨h1, h2, ?_⟩
    unfold msd at h
    split at h
    · cases h
    · rename_i hc
      have := measF_maxD (nodesE 1 e) 0 0 (by omega) (by omega)
      omega
  · rintro ⟨h1, h2, h3⟩
    have hv := measF_val (nodesE 1 e) 0 0 (by omega) (by omega)
    have hf : firstF chkN (nodesE 1 e) = 0 := by
      have key : ∀ L : List (Int × Ex), (∀ q ∈ L, chkN q.2 = 0) → firstF chkN L = 0 := by
        intro L
        induction L with
        | nil => intro _; rfl
        | cons q r ih => intro h; obtain ⟨d, x⟩ := q; unfold firstF; rw [if_pos (h (d, x) (by simp))]; exact ih (fun q hq => h q (by simp [hq]))
      exact key _ h1
    unfold msd
    rw [hv, if_neg (by simp only; omega), if_pos hf]
theorem msd_val {e : Ex} (h : (msd chkN e).2.2 = 0) : msd chkN e = (((nodesE 1 e).length : Int), (hE e : Int), 0) := by
  obtain ⟨h1, h2, h3⟩ := msd_iff.1 h
  obtain ⟨_, _, g3, g4⟩ := msd_ok h
  have hm := maxD_E e 0 1
  have hv := measF_val (nodesE 1 e) 0 0 (by omega) (by omega)
  rw [hv] at g4
  have e1 : (msd chkN e).2.1 = (hE e : Int) := by rw [g4]; simp only; omega
  calc msd chkN e = ((msd chkN e).1, (msd chkN e).2.1, (msd chkN e).2.2) := rfl
    _ = _ := by rw [g3, e1, h]
theorem nodesL_len (l : List Ex) (d : Int) : (nodesL d l).length = (l.map fun x => (nodesE 1 x).length).sum := by
  induction l with
  | nil => rfl
  | cons x r ih => simp only [nodesL, List.length_append, List.map_cons, List.sum_cons]; rw [ih, nodesE_len d 1 x]
theorem size_parts (e : Ex) : (nodesE 1 e).length = 1 + (e.parts.map fun x => (nodesE 1 x).length).sum := by
  cases e with
  | mk k n s t ns l ops bs =>
    simp only [nodesE, List.length_cons, List.length_append, nodesL_len, Ex.parts, Ex.l, Ex.bs, List.map_append, List.sum_append]
    omega
theorem hL_fold (l : List Ex) : hL l = (l.map hE).foldl max 0 := by
  have key : ∀ (l : List Ex) (m : Nat), (l.map hE).foldl max m = max m (hL l) := by
    intro l
    induction l with
    | nil => intro m; simp [hL]
    | cons x r ih => intro m; rw [List.map_cons, List.foldl_cons, ih, hL]; omega
  rw [key]; omega
theorem hL_append (a b : List Ex) : hL (a ++ b) = max (hL a) (hL b) := by
  induction a with
  | nil => simp [hL]
  | cons x r ih => rw [List.cons_append, hL, hL, ih]; omega
theorem depth_parts (e : Ex) : hE e = 1 + hL e.parts := by
  cases e with
  | mk k n s t ns l ops bs => simp only [hE, Ex.parts, Ex.l, Ex.bs, hL_append]
theorem sum_mem {l : List Ex} {x : Ex} (h : x ∈ l) : (nodesE 1 x).length ≤ (l.map fun x => (nodesE 1 x).length).sum := by
  induction l with
  | nil => simp at h
  | cons y r ih =>
    rw [List.map_cons, List.sum_cons]
    rcases List.mem_cons.1 h with rfl | h
    · omega
    · have := ih h; omega
/-- parts of an accepted tree are accepted -/
theorem part_ok {e x : Ex} (h : (msd chkN e).2.2 = 0) (hx : x ∈ e.parts) : (msd chkN x).2.2 = 0 := by
  obtain ⟨h1, h2, h3⟩ := msd_iff.1 h
  have hs := size_parts e
  have hd := depth_parts e
  have a1 := sum_mem hx
  have a2 := hL_mem hx
  refine msd_iff.2 ⟨?_, by omega, by omega⟩
  cases e with
  | mk k n s t ns l ops bs =>
    obtain ⟨_, g1, g2⟩ := h1.parts
    rcases List.mem_append.1 (show x ∈ l ++ bs from hx) with h | h
    · exact g1 x h
    · exact g2 x h
end Go.Proofs.YtndgoefhhjcllaaGreatDoor
/- Trees whose nodes have as many heads of arms as bodies; what is not too large is not too deep; worlds of which all below is kept. -/
namespace Go.Proofs.YtndgoefhhjcllaaGreatDoor
open Go.RowKit

/-- each node of a tree has as many heads of arms as bodies -/
def evn (e : Ex) : Prop := ∀ q ∈ nodesE 1 e, q.2.ops.length = q.2.bs.length
theorem evn.parts {k n : Int} {s t : Txt} {ns : List Txt} {l : List Ex} {ops : List (Txt × List Txt)} {bs : List Ex} (h : evn (.mk k n s t ns l ops bs)) : ops.length = bs.length ∧ (∀ x ∈ l, evn x) ∧ ∀ x ∈ bs, evn x := by
  refine ⟨h (1, .mk k n s t ns l ops bs) (by simp [nodesE]), fun x hx => nodesE_snd (fun e => e.ops.length = e.bs.length) x (1 + 1) 1 fun q hq => h q ?_, fun x hx => nodesE_snd (fun e => e.ops.length = e.bs.length) x (1 + 1) 1 fun q hq => h q ?_⟩
  · simp only [nodesE, List.mem_cons, List.mem_append]
    exact .inr (.inl (mem_nodesL hx hq))
  · simp only [nodesE, List.mem_cons, List.mem_append]
    exact .inr (.inr (mem_nodesL hx hq))
theorem mem_of_nodesL {d : Int} {q : Int × Ex} : ∀ {l : List Ex}, q ∈ nodesL d l → ∃ x ∈ l, q ∈ nodesE d x
  | [], h => by simp [nodesL] at h
  | x :: r, h => by
    simp only [nodesL, List.mem_append] at h
    rcases h with h | h
    · exact ⟨x, by simp, h⟩
    · obtain ⟨y, hy, hq⟩ := mem_of_nodesL h
      exact ⟨y, by simp [hy], hq⟩
theorem RepE.evn {P : Nat → Prop} {w : World} : ∀ (e : Ex), (∃ cs, RepE P w e cs) → Proofs.YtndgoefhhjcllaaGreatDoor.evn e := by
  refine Ex.ind fun e ih h => ?_
  cases e with
  | mk k n s t ns l ops bs =>
    obtain ⟨cs, An, cn, Al, cl, Aa, ca, _, _, _, hl, ha, ho⟩ := h
    intro q hq
    simp only [nodesE, List.mem_cons, List.mem_append] at hq
    have up : ∀ x, Proofs.YtndgoefhhjcllaaGreatDoor.evn x → ∀ q ∈ nodesE (1 + 1) x, q.2.ops.length = q.2.bs.length := fun x hx => nodesE_snd (fun e => e.ops.length = e.bs.length) x 1 (1 + 1) hx
    rcases hq with rfl | hq | hq
    · exact ho
    · obtain ⟨x, hx, hq⟩ := mem_of_nodesL hq
      obtain ⟨b, off, _, _, _, hr⟩ := hl (List.ne_nil_of_mem hx)
      obtain ⟨j, hj, rfl⟩ := List.getElem_of_mem hx
      obtain ⟨cs', _, _, hre⟩ := RepL.at hr (List.getElem?_eq_getElem hj)
      exact up _ (ih _ (by simp [Ex.parts, Ex.l, Ex.bs, hx]) ⟨cs', hre⟩) q hq
    · obtain ⟨x, hx, hq⟩ := mem_of_nodesL hq
      obtain ⟨b, off, _, _, _, hr⟩ := ha (List.ne_nil_of_mem hx)
      obtain ⟨j, hj, rfl⟩ := List.getElem_of_mem hx
      obtain ⟨o, _, _, _, cs', _, _, _, _, _, _, _, hre⟩ := RepA.at hr (List.getElem?_eq_getElem hj)
      exact up _ (ih _ (by simp [Ex.parts, Ex.l, Ex.bs, hx]) ⟨cs', hre⟩) q hq
mutual
theorem leftP_hE : ∀ (e : Ex) (nodes d : Int), evn e → 0 ≤ leftP e nodes d → (hE e : Int) ≤ d ∧ 0 < d ∧ e.l.length ≤ 50 ∧ e.bs.length ≤ 50
  | .mk k n s t ns l ops bs, nodes, d, hv, h => by
    obtain ⟨v1, v2, v3⟩ := hv.parts
    rw [leftP] at h
    split at h
    · omega
    · rename_i hc
      have c1 : ¬ d < 1 := fun h => hc (.inl h)
      have c2 : ¬ 50 < l.length := fun h => hc (.inr (.inr (.inr (.inr (.inl h)))))
      have c3 : ¬ 50 < bs.length := fun h => hc (.inr (.inr (.inr (.inr (.inr h)))))
      have h1 : 0 ≤ leftL l (nodes - 1) (d - 1) := by
        by_cases h0 : leftL l (nodes - 1) (d - 1) < 0
        · rw [leftA_neg _ _ _ _ h0] at h; omega
        · omega
      have g1 := leftL_hE l (nodes - 1) (d - 1) v2 h1
      have g2 := leftA_hE ops bs (leftL l (nodes - 1) (d - 1)) (d - 1) v1 v3 h
      simp only [hE, Ex.l, Ex.bs]
      have e1 : (hL l : Int) ≤ d - 1 := by
        rcases g1 with rfl | g1
        · simp only [hL]; omega
        · exact g1
      have e2 : (hL bs : Int) ≤ d - 1 := by
        rcases g2 with rfl | g2
        · simp only [hL]; omega
        · exact g2
      omega
theorem leftL_hE : ∀ (l : List Ex) (nodes d : Int), (∀ x ∈ l, evn x) → 0 ≤ leftL l nodes d → l = [] ∨ (hL l : Int) ≤ d
  | [], nodes, d, _, _ => .inl rfl
  | e :: r, nodes, d, hv, h => by
    rw [leftL] at h
    split at h
    · omega
    · have h1 : 0 ≤ leftP e nodes d := by
        by_cases h0 : leftP e nodes d < 0
        · rw [leftL_neg _ _ _ h0] at h; omega
        · omega
      have g1 := leftP_hE e nodes d (hv e (by simp)) h1
      have g2 := leftL_hE r _ d (fun x hx => hv x (by simp [hx])) h
      right
      rw [hL]
      rcases g2 with rfl | g2
      · simp only [hL]; omega
      · omega
theorem leftA_hE : ∀ (ops : List (Txt × List Txt)) (l : List Ex) (nodes d : Int), ops.length = l.length → (∀ x ∈ l, evn x) → 0 ≤ leftA ops l nodes d → l = [] ∨ (hL l : Int) ≤ d
  | _, [], nodes, d, _, _, _ => .inl rfl
  | [], e :: r, nodes, d, hl, _, _ => by simp at hl
  | o :: q, e :: r, nodes, d, hl, hv, h => by
    rw [leftA] at h
    split at h
    · omega
    · split at h
      · omega
      · have h1 : 0 ≤ leftP e nodes d := by
          by_cases h0 : leftP e nodes d < 0
          · rw [leftA_neg _ _ _ _ h0] at h; omega
          · omega
        have g1 := leftP_hE e nodes d (hv e (by simp)) h1
        have g2 := leftA_hE q r _ d (by simpa using hl) (fun x hx => hv x (by simp [hx])) h
        right
        rw [hL]
        rcases g2 with rfl | g2
        · simp only [hL]; omega
        · omega
end
theorem great_hE {e : Ex} (hv : evn e) (h : great e = false) : hE e ≤ 250 ∧ e.l.length ≤ 50 ∧ e.bs.length ≤ 50 := by
  unfold great at h
  have := leftP_hE e 4000 250 hv (by simpa using h)
  omega

/-- what has been since a world leaves all below alone -/
def PtS (w0 w : World) : Prop := Below w0.heap.size w0 w
theorem PtS.drew {w0 w : World} (h : PtS w0 w) : PtS w0 w.drew := Below.drew h
theorem PtS.below {w0 w w' : World} (hb : Below w.heap.size w w') (h : PtS w0 w) : PtS w0 w' := Below.trans h (hb.mono (Below.size h))
theorem PtS.all {w0 w : World} {b o : Nat} {u0 u1 u2 u3 u4 u5 u6 : Value} (hlt : b < w0.heap.size) (d0 : w0.cell? ⟨b, o, none⟩ = some u0) (d1 : w0.cell? ⟨b, o + 1, none⟩ = some u1) (d2 : w0.cell? ⟨b, o + 2, none⟩ = some u2) (d3 : w0.cell? ⟨b, o + 3, none⟩ = some u3) (d4 : w0.cell? ⟨b, o + 4, none⟩ = some u4) (d5 : w0.cell? ⟨b, o + 5, none⟩ = some u5) (d6 : w0.cell? ⟨b, o + 6, none⟩ = some u6) (h : PtS w0 w) :
    w.cell? ⟨b, o, none⟩ = some u0 ∧ w.cell? ⟨b, o + 1, none⟩ = some u1 ∧ w.cell? ⟨b, o + 2, none⟩ = some u2 ∧ w.cell? ⟨b, o + 3, none⟩ = some u3 ∧ w.cell? ⟨b, o + 4, none⟩ = some u4 ∧ w.cell? ⟨b, o + 5, none⟩ = some u5 ∧ w.cell? ⟨b, o + 6, none⟩ = some u6 ∧ PtS w0 w := by
  have k : ∀ o, w.cell? ⟨b, o, none⟩ = w0.cell? ⟨b, o, none⟩ := fun o => Below.cell (p := ⟨b, o, none⟩) h hlt
  exact ⟨(k _).trans d0, (k _).trans d1, (k _).trans d2, (k _).trans d3, (k _).trans d4, (k _).trans d5, (k _).trans d6, h⟩
theorem hL_snoc (l : List Ex) (x : Ex) : hL (l ++ [x]) = max (hL l) (hE x) := by rw [hL_append]; simp only [hL]; omega
theorem hL_take (l : List Ex) (k : Nat) : hL (l.take k) ≤ hL l := by
  have := hL_append (l.take k) (l.drop k)
  rw [List.take_append_drop] at this; omega
def szL (l : List Ex) : Nat := (l.map fun x => (nodesE 1 x).length).sum
theorem szL_snoc (l : List Ex) (x : Ex) : szL (l ++ [x]) = szL l + (nodesE 1 x).length := by unfold szL; rw [List.map_append, List.sum_append]; simp
theorem szL_take (l : List Ex) (k : Nat) : szL (l.take k) ≤ szL l := by
  have h : szL (l.take k ++ l.drop k) = szL (l.take k) + szL (l.drop k) := by unfold szL; rw [List.map_append, List.sum_append]
  rw [List.take_append_drop] at h; omega
theorem show_ok {e : Ex} (h : (msd chkN e).2.2 = 0) : showS e = (textE e, 0) := by unfold showS; exact if_pos h

end Go.Proofs.YtndgoefhhjcllaaGreatDoor
