/- Texts put together by program: RParts RPartsW PtMath Evn. -/
import Derived.Test.YtbfojibhdadglaaGreatDoorMgF
import Derived.Laws.AppendOwnNone
/- The reference's Parts. -/
namespace Go.Proofs.YtbfojibhdadglaaGreatDoor
open Go.RowKit

/-- cells of expressions, in order -/
def CellsOf (B : Nat) (w : World) (l : List Ex) (cl : List (List Value)) : Prop := cl.length = l.length ∧ ∀ (j : Nat) (e : Ex) (c : List Value), l[j]? = some e → cl[j]? = some c → c.length = 7 ∧ (∀ u ∈ c, u.oneCell' = true) ∧ RepE (fun b => b < B) w e c
theorem CellsOf.keep {B : Nat} {w w' : World} {l : List Ex} {cl : List (List Value)} (h : CellsOf B w l cl) (hs : Same (fun b => b < B) w w') : CellsOf B w' l cl :=
  ⟨h.1, fun j e c h1 h2 => by obtain ⟨a, b, c⟩ := h.2 j e c h1 h2; exact ⟨a, b, c.keep hs⟩⟩
theorem one_cells {k n : Int} {s t : ByteArray} {A0 : Option Addr} {n0 c0 : Nat} {A1 : Option Addr} {n1 c1 : Nat} {A2 : Option Addr} {n2 c2 : Nat} : ∀ u ∈ [Value.int .i64 k, .int .i64 n, .string s, .string t, .slice A0 n0 c0, .slice A1 n1 c1, .slice A2 n2 c2], u.oneCell' = true := by
  intro u hu
  simp only [List.mem_cons, List.not_mem_nil, or_false] at hu
  rcases hu with rfl | rfl | rfl | rfl | rfl | rfl | rfl <;> rfl
theorem CellsOf.take {B : Nat} {w : World} {l : List Ex} {cl : List (List Value)} (h : CellsOf B w l cl) (k : Nat) : CellsOf B w (l.take k) (cl.take k) := by
  refine ⟨by rw [List.length_take, List.length_take, h.1], fun j e c h1 h2 => ?_⟩
  rw [List.getElem?_take] at h1 h2
  split at h1
  · rename_i hj
    rw [if_pos hj] at h2
    exact h.2 j e c h1 h2
  · cases h1
theorem cflat_len {cl : List (List Value)} (h : ∀ c ∈ cl, c.length = 7) : cl.flatten.length = cl.length * 7 := by
  induction cl with
  | nil => rfl
  | cons c r ih => rw [List.flatten_cons, List.length_append, h c (by simp), ih (fun x hx => h x (by simp [hx])), List.length_cons]; omega
theorem cflat_at {cl : List (List Value)} (h : ∀ c ∈ cl, c.length = 7) : ∀ (j i : Nat) (c : List Value), cl[j]? = some c → i < 7 → cl.flatten[j * 7 + i]? = c[i]? := by
  induction cl with
  | nil => intro j i c h1; simp at h1
  | cons a r ih =>
    intro j i c h1 hi
    have ha := h a (by simp)
    rw [List.flatten_cons]
    cases j with
    | zero =>
      simp at h1
      subst h1
      rw [List.getElem?_append_left (by omega), Nat.zero_mul, Nat.zero_add]
    | succ j =>
      rw [List.getElem?_append_right (by omega), show (j + 1) * 7 + i - a.length = j * 7 + i by omega]
      exact ih (fun x hx => h x (by simp [hx])) j i c (by simpa using h1) hi
theorem CellsOf.seven {B : Nat} {w : World} {l : List Ex} {cl : List (List Value)} (h : CellsOf B w l cl) : ∀ c ∈ cl, c.length = 7 := fun c hc => by
  obtain ⟨j, hj, rfl⟩ := List.getElem_of_mem hc
  exact (h.2 j _ _ (List.getElem?_eq_getElem (show j < l.length by rw [← h.1]; exact hj)) (List.getElem?_eq_getElem hj)).1
theorem CellsOf.one {B : Nat} {w : World} {l : List Ex} {cl : List (List Value)} (h : CellsOf B w l cl) : ∀ u ∈ cl.flatten, u.oneCell' = true := fun u hu => by
  obtain ⟨c, hc, hu⟩ := List.mem_flatten.1 hu
  obtain ⟨j, hj, rfl⟩ := List.getElem_of_mem hc
  exact (h.2 j _ _ (List.getElem?_eq_getElem (show j < l.length by rw [← h.1]; exact hj)) (List.getElem?_eq_getElem hj)).2.1 u hu
/-- parts in memory, as their cells -/
theorem PartsAt.cellsOf {B : Nat} {w : World} {b off : Nat} {l : List Ex} (h : PartsAt B w (some ⟨b, off, none⟩) l) : ∃ cl, CellsOf B w l cl ∧ ∀ (j : Nat) (u : Value), cl.flatten[j]? = some u → w.cell? ⟨b, off + j, none⟩ = some u := by
  obtain ⟨cl, hl, hc⟩ := list_of (α := List Value) l.length (fun i c => ∃ e, l[i]? = some e ∧ c.length = 7 ∧ (∀ u ∈ c, u.oneCell' = true) ∧ RepE (fun b => b < B) w e c ∧ ∀ i' u, c[i']? = some u → w.cell? ⟨b, off + (i * 7 + i'), none⟩ = some u) fun i hi => by
    obtain ⟨_, k, n, s, t, A0, n0, c0, A1, n1, c1, A2, n2, c2, H⟩ := h.at (List.getElem?_eq_getElem hi)
    refine ⟨_, _, List.getElem?_eq_getElem hi, rfl, one_cells, H.rep, fun i' u hu => ?_⟩
    match i', hu with
    | 0, hu => simp at hu; subst hu; exact H.d0
    | 1, hu => simp at hu; subst hu; have := H.d1; rwa [Nat.add_assoc] at this
    | 2, hu => simp at hu; subst hu; have := H.d2; rwa [Nat.add_assoc] at this
    | 3, hu => simp at hu; subst hu; have := H.d3; rwa [Nat.add_assoc] at this
    | 4, hu => simp at hu; subst hu; have := H.d4; rwa [Nat.add_assoc] at this
    | 5, hu => simp at hu; subst hu; have := H.d5; rwa [Nat.add_assoc] at this
    | 6, hu => simp at hu; subst hu; have := H.d6; rwa [Nat.add_assoc] at this
    | i' + 7, hu => simp at hu
  have h7 : ∀ c ∈ cl, c.length = 7 := fun c hcm => by
    obtain ⟨j, hj, rfl⟩ := List.getElem_of_mem hcm
    obtain ⟨_, _, h, _⟩ := hc j _ (List.getElem?_eq_getElem hj)
    exact h
  refine ⟨cl, ⟨hl, fun j e c h1 h2 => ?_⟩, fun j u hu => ?_⟩
  · obtain ⟨e', he, a1, a2, a3, _⟩ := hc j c h2
    obtain rfl : e' = e := Option.some.inj (he.symm.trans h1)
    exact ⟨a1, a2, a3⟩
  · have hj := (List.getElem?_eq_some_iff.1 hu).1
    rw [cflat_len h7] at hj
    have hjl : j / 7 < cl.length := by omega
    obtain ⟨_, _, _, _, _, a4⟩ := hc (j / 7) _ (List.getElem?_eq_getElem hjl)
    have e1 : j / 7 * 7 + j % 7 = j := by omega
    have := cflat_at h7 (j / 7) (j % 7) _ (List.getElem?_eq_getElem hjl) (by omega)
    rw [e1, hu] at this
    have := a4 (j % 7) u this.symm
    rwa [e1] at this
theorem ArmsAt.cellsOf {B : Nat} {w : World} {b off : Nat} {hs : List (Txt × List Txt)} {l : List Ex} (h : ArmsAt B w (some ⟨b, off, none⟩) hs l) (hl : hs.length = l.length) : ∃ cl, CellsOf B w l cl ∧ ∀ (j : Nat) (c : List Value), cl[j]? = some c → ∃ k n s t A0 n0 c0 A1 n1 c1 A2 n2 c2, c = [.int .i64 k, .int .i64 n, .string s, .string t, .slice A0 n0 c0, .slice A1 n1 c1, .slice A2 n2 c2] ∧
    w.cell? ⟨b, off + j * 9 + 2, none⟩ = some (.int .i64 k) ∧ w.cell? ⟨b, off + j * 9 + 3, none⟩ = some (.int .i64 n) ∧ w.cell? ⟨b, off + j * 9 + 4, none⟩ = some (.string s) ∧ w.cell? ⟨b, off + j * 9 + 5, none⟩ = some (.string t) ∧ w.cell? ⟨b, off + j * 9 + 6, none⟩ = some (.slice A0 n0 c0) ∧ w.cell? ⟨b, off + j * 9 + 7, none⟩ = some (.slice A1 n1 c1) ∧ w.cell? ⟨b, off + j * 9 + 8, none⟩ = some (.slice A2 n2 c2) := by
  obtain ⟨cl, hcl, hc⟩ := list_of (α := List Value) l.length (fun i c => ∃ e, l[i]? = some e ∧ ∃ k n s t A0 n0 c0 A1 n1 c1 A2 n2 c2, c = [.int .i64 k, .int .i64 n, .string s, .string t, .slice A0 n0 c0, .slice A1 n1 c1, .slice A2 n2 c2] ∧ RepE (fun b => b < B) w e c ∧
      w.cell? ⟨b, off + i * 9 + 2, none⟩ = some (.int .i64 k) ∧ w.cell? ⟨b, off + i * 9 + 3, none⟩ = some (.int .i64 n) ∧ w.cell? ⟨b, off + i * 9 + 4, none⟩ = some (.string s) ∧ w.cell? ⟨b, off + i * 9 + 5, none⟩ = some (.string t) ∧ w.cell? ⟨b, off + i * 9 + 6, none⟩ = some (.slice A0 n0 c0) ∧ w.cell? ⟨b, off + i * 9 + 7, none⟩ = some (.slice A1 n1 c1) ∧ w.cell? ⟨b, off + i * 9 + 8, none⟩ = some (.slice A2 n2 c2)) fun i hi => by
    obtain ⟨b', off', e', _, _, hcc⟩ := h (fun h0 => by rw [h0] at hi; simp at hi)
    injection e' with e'
    injection e' with e1 e2 e3
    subst e1; subst e2
    obtain ⟨An, cn, k, n, s, t, A0, n0, c0, A1, n1, c1, A2, n2, c2, H⟩ := hcc i _ _ (List.getElem?_eq_getElem (show i < hs.length by omega)) (List.getElem?_eq_getElem hi)
    exact ⟨_, _, List.getElem?_eq_getElem hi, k, n, s, t, A0, n0, c0, A1, n1, c1, A2, n2, c2, rfl, H.rep, H.d2, H.d3, H.d4, H.d5, H.d6, H.d7, H.d8⟩
  refine ⟨cl, ⟨hcl, fun j e c h1 h2 => ?_⟩, fun j c h2 => ?_⟩
  · obtain ⟨e', he, k, n, s, t, A0, n0, c0, A1, n1, c1, A2, n2, c2, rfl, a3, _⟩ := hc j c h2
    obtain rfl : e' = e := Option.some.inj (he.symm.trans h1)
    exact ⟨rfl, one_cells, a3⟩
  · obtain ⟨e', he, k, n, s, t, A0, n0, c0, A1, n1, c1, A2, n2, c2, e, _, r⟩ := hc j c h2
    exact ⟨k, n, s, t, A0, n0, c0, A1, n1, c1, A2, n2, c2, e, r⟩
end Go.Proofs.YtbfojibhdadglaaGreatDoor
/- The reference's Parts, walked. -/
namespace Go.Proofs.YtbfojibhdadglaaGreatDoor
open Go.RowKit

theorem own_slice {w : World} {base : Nat} {T : TypeId} {size : Nat} {v : Value} {n : Nat} {xs : List Value} (h : w.ownsRow base T size v n xs) : ∃ A c, v = .slice A n c := by
  rcases h.2 with ⟨e, h0⟩ | ⟨g, cap, cur, e, _⟩
  · exact ⟨none, 0, by rw [e, h0]⟩
  · exact ⟨_, _, e⟩
end Go.Proofs.YtbfojibhdadglaaGreatDoor
/- Parts of a well-formed expression: their sizes, depths and texts. -/
namespace Go.Proofs.YtbfojibhdadglaaGreatDoor
open Go.RowKit

/-- a piece list lies within another, with so much beside it -/
def Sub (q ps : List Txt) (n : Nat) : Prop := ∃ a b, ps = a ++ (q ++ b) ∧ n ≤ tot a + tot b
theorem Sub.self (q : List Txt) : Sub q q 0 := ⟨[], [], by simp, Nat.zero_le _⟩
theorem Sub.left {q xs : List Txt} {n : Nat} (h : Sub q xs n) (ys : List Txt) : Sub q (xs ++ ys) (n + tot ys) := by
  obtain ⟨a, b, rfl, hn⟩ := h
  exact ⟨a, b ++ ys, by simp, by rw [tot_append]; omega⟩
theorem Sub.right {q ys : List Txt} {n : Nat} (xs : List Txt) (h : Sub q ys n) : Sub q (xs ++ ys) (tot xs + n) := by
  obtain ⟨a, b, rfl, hn⟩ := h
  exact ⟨xs ++ a, b, by simp, by rw [tot_append]; omega⟩
theorem Sub.mono {q ps : List Txt} {n k : Nat} (h : Sub q ps n) (hk : k ≤ n) : Sub q ps k := by
  obtain ⟨a, b, e, hn⟩ := h
  exact ⟨a, b, e, by omega⟩
theorem Sub.atP (a : Int) (q : LvP) : Sub q.2 (atP a q) 0 := by
  unfold Proofs.YtbfojibhdadglaaGreatDoor.atP
  split
  · exact Sub.self _
  · exact ((Sub.self q.2).left [[41]] |>.right [[40]]).mono (Nat.zero_le _)
theorem Sub.behind : ∀ (l : List LvP) (ts : List Txt) (q : LvP), q ∈ l → l.length ≤ ts.length → (∀ t ∈ ts, 0 < t.length) → Sub q.2 (behindP l ts) 1
  | [], _, _, h, _, _ => by simp at h
  | a :: r, [], _, _, hl, _ => by simp at hl
  | a :: r, t :: ts, q, h, hl, ht => by
    have h1 := ht t (by simp)
    have h2 : tot [t] = t.length := rfl
    unfold behindP
    rcases List.mem_cons.1 h with rfl | h
    · exact (((Sub.atP 0 q).left (behindP r ts)).right [t]).mono (by omega)
    · exact (((Sub.behind r ts q h (by simpa using hl) (fun x hx => ht x (by simp [hx]))).right (Proofs.YtbfojibhdadglaaGreatDoor.atP 0 a)).right [t]).mono (by omega)
theorem Sub.list (sep : Txt) : ∀ (xs : List (List Txt)) (q : List Txt), (∃ x ∈ xs, Sub q x 0) → Sub q (listP sep xs) 0
  | [], q, h => by obtain ⟨x, hx, _⟩ := h; simp at hx
  | y :: r, q, h => by
    obtain ⟨x, hx, hs⟩ := h
    unfold listP
    rcases List.mem_cons.1 hx with rfl | hx
    · exact (hs.left _).mono (Nat.zero_le _)
    · have key : ∀ r : List (List Txt), x ∈ r → Sub q (r.flatMap fun y => [sep] ++ y) 0 := by
        intro r
        induction r with
        | nil => intro h; simp at h
        | cons z r ih =>
          intro h
          rw [List.flatMap_cons]
          rcases List.mem_cons.1 h with rfl | h
          · exact ((hs.right [sep]).left _).mono (Nat.zero_le _)
          · exact ((ih h).right _).mono (Nat.zero_le _)
      exact ((key r hx).right _).mono (Nat.zero_le _)
theorem Sub.braces {hs : List (Txt × List Txt)} {l : List LvP} {q : LvP} (h : q ∈ l) (hl : hs.length = l.length) : Sub q.2 (bracesP hs l) 1 := by
  obtain ⟨j, hj, rfl⟩ := List.getElem_of_mem h
  unfold bracesP
  have h1 : Sub l[j].2 (armP (hs[j]'(by omega)) l[j]) 0 := by
    unfold armP
    exact ((((Sub.atP 0 l[j]).right _).right _).right _).mono (Nat.zero_le _)
  have h2 := Sub.list [59, 32] (List.zipWith armP hs l) l[j].2 ⟨_, List.mem_iff_getElem.2 ⟨j, by rw [List.length_zipWith]; omega, List.getElem_zipWith⟩, h1⟩
  have h3 : tot [([123, 32] : Txt)] = 2 := rfl
  exact ((h2.left _).right [[123, 32]]).mono (by omega)
end Go.Proofs.YtbfojibhdadglaaGreatDoor
/- Trees whose nodes have as many heads of arms as bodies; what is not too large is not too deep; worlds of which all below is kept. -/
namespace Go.Proofs.YtbfojibhdadglaaGreatDoor
open Go.RowKit

/-- each node of a tree has as many heads of arms as bodies -/
def evn (e : Ex) : Prop := ∀ q ∈ nodesE 1 e, q.2.ops.length = q.2.bs.length
theorem evn.parts {k n : Int} {s t : Txt} {ns : List Txt} {l : List Ex} {ops : List (Txt × List Txt)} {bs : List Ex} (h : evn (.mk k n s t ns l ops bs)) : ops.length = bs.length ∧ (∀ x ∈ l, evn x) ∧ ∀ x ∈ bs, evn x := by
  refine ⟨h (1, .mk k n s t ns l ops bs) (by simp [nodesE]), fun x hx => nodesE_snd (fun e => e.ops.length = e.bs.length) x (1 + 1) 1 fun q hq => h q ?_, fun x hx => nodesE_snd (fun e => e.ops.length = e.bs.length) x (1 + 1) 1 fun q hq => h q ?_⟩
  · simp only [nodesE, List.mem_cons, List.mem_append]
    exact .inr (.inl (mem_nodesL hx hq))
  · simp only [nodesE, List.mem_cons, List.mem_append]
    exact .inr (.inr (mem_nodesL hx hq))
theorem mem_of_nodesL {d : Int} {q : Int × Ex} : ∀ {l : List Ex}, q ∈ nodesL d l → ∃ x ∈ l, q ∈ nodesE d x
  | [], h => by simp [nodesL] at h
  | x :: r, h => by
    simp only [nodesL, List.mem_append] at h
    rcases h with h | h
    · exact ⟨x, by simp, h⟩
    · obtain ⟨y, hy, hq⟩ := mem_of_nodesL h
      exact ⟨y, by simp [hy], hq⟩
theorem RepE.evn {P : Nat → Prop} {w : World} : ∀ (e : Ex), (∃ cs, RepE P w e cs) → Proofs.YtbfojibhdadglaaGreatDoor.evn e := by
  refine Ex.ind fun e ih h => ?_
  cases e with
  | mk k n s t ns l ops bs =>
    obtain ⟨cs, An, cn, Al, cl, Aa, ca, _, _, _, hl, ha, ho⟩ := h
    intro q hq
    simp only [nodesE, List.mem_cons, List.mem_append] at hq
    have up : ∀ x, Proofs.YtbfojibhdadglaaGreatDoor.evn x → ∀ q ∈ nodesE (1 + 1) x, q.2.ops.length = q.2.bs.length := fun x hx => nodesE_snd (fun e => e.ops.length = e.bs.length) x 1 (1 + 1) hx
    rcases hq with rfl | hq | hq
    · exact ho
    · obtain ⟨x, hx, hq⟩ := mem_of_nodesL hq
      obtain ⟨b, off, _, _, _, hr⟩ := hl (List.ne_nil_of_mem hx)
      obtain ⟨j, hj, rfl⟩ := List.getElem_of_mem hx
      obtain ⟨cs', _, _, hre⟩ := RepL.at hr (List.getElem?_eq_getElem hj)
      exact up _ (ih _ (by simp [Ex.parts, Ex.l, Ex.bs, hx]) ⟨cs', hre⟩) q hq
    · obtain ⟨x, hx, hq⟩ := mem_of_nodesL hq
      obtain ⟨b, off, _, _, _, hr⟩ := ha (List.ne_nil_of_mem hx)
      obtain ⟨j, hj, rfl⟩ := List.getElem_of_mem hx
      obtain ⟨o, _, _, _, cs', _, _, _, _, _, _, _, hre⟩ := RepA.at hr (List.getElem?_eq_getElem hj)
      exact up _ (ih _ (by simp [Ex.parts, Ex.l, Ex.bs, hx]) ⟨cs', hre⟩) q hq
/-- what has been since a world leaves all below alone -/
def PtS (w0 w : World) : Prop := Below w0.heap.size w0 w
theorem PtS.drew {w0 w : World} (h : PtS w0 w) : PtS w0 w.drew := Below.drew h
theorem PtS.below {w0 w w' : World} (hb : Below w.heap.size w w') (h : PtS w0 w) : PtS w0 w' := Below.trans h (hb.mono (Below.size h))
theorem PtS.all {w0 w : World} {b o : Nat} {u0 u1 u2 u3 u4 u5 u6 : Value} (hlt : b < w0.heap.size) (d0 : w0.cell? ⟨b, o, none⟩ = some u0) (d1 : w0.cell? ⟨b, o + 1, none⟩ = some u1) (d2 : w0.cell? ⟨b, o + 2, none⟩ = some u2) (d3 : w0.cell? ⟨b, o + 3, none⟩ = some u3) (d4 : w0.cell? ⟨b, o + 4, none⟩ = some u4) (d5 : w0.cell? ⟨b, o + 5, none⟩ = some u5) (d6 : w0.cell? ⟨b, o + 6, none⟩ = some u6) (h : PtS w0 w) :
    w.cell? ⟨b, o, none⟩ = some u0 ∧ w.cell? ⟨b, o + 1, none⟩ = some u1 ∧ w.cell? ⟨b, o + 2, none⟩ = some u2 ∧ w.cell? ⟨b, o + 3, none⟩ = some u3 ∧ w.cell? ⟨b, o + 4, none⟩ = some u4 ∧ w.cell? ⟨b, o + 5, none⟩ = some u5 ∧ w.cell? ⟨b, o + 6, none⟩ = some u6 ∧ PtS w0 w := by
  have k : ∀ o, w.cell? ⟨b, o, none⟩ = w0.cell? ⟨b, o, none⟩ := fun o => Below.cell (p := ⟨b, o, none⟩) h hlt
  exact ⟨(k _).trans d0, (k _).trans d1, (k _).trans d2, (k _).trans d3, (k _).trans d4, (k _).trans d5, (k _).trans d6, h⟩
end Go.Proofs.YtbfojibhdadglaaGreatDoor
