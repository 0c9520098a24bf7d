/- Texts put together by program: Ty SmA TyB TyC RefB RChkA TyI TyJ TyK TyL TyM TyP. -/
import Derived.Test.YtbfojibhdadglaaGreatDoorMgB
import Derived.Test.YtbfojibhdadglaaGreatDoorMgG
import Derived.Test.YtbfojibhdadglaaGreatDoorMgA
import Derived.Deep.RegionHeld3
import Derived.Test.YtbfojibhdadglaaGreatDoorMgC
import Derived.Test.YtbfojibhdadglaaGreatDoorMgE
/- Types as trees, how they lie in memory, and an argument that is a type, opened. -/
namespace Go.Proofs.YtbfojibhdadglaaGreatDoor
open Go.ChangeShapes Go.WideShapes Go.Deep Go.RowKit

/-- a type: its kind, number, string, parts, labels, tail -/
inductive Ty where
  | mk (k n : Int) (s : List UInt8) (l : List Ty) (ls : List (List UInt8 × Int)) (tl : Int)
namespace Ty
def k : Ty → Int | mk k .. => k
def n : Ty → Int | mk _ n .. => n
def s : Ty → List UInt8 | mk _ _ s .. => s
def l : Ty → List Ty | mk _ _ _ l .. => l
def ls : Ty → List (List UInt8 × Int) | mk _ _ _ _ ls _ => ls
def tl : Ty → Int | mk _ _ _ _ _ tl => tl
end Ty
/-- labels lie in memory -/
def LabsAt (P : Nat → Prop) (w : World) (A : Option Addr) (L : List (List UInt8 × Int)) : Prop :=
  L ≠ [] → ∃ b off, A = some ⟨b, off, none⟩ ∧ P b ∧ b < w.heap.size ∧ ∀ (j : Nat) (x : List UInt8 × Int), L[j]? = some x → w.cell? ⟨b, off + j * 2, none⟩ = some (.string (strB x.1)) ∧ w.cell? ⟨b, off + j * 2 + 1, none⟩ = some (.int .i64 x.2)
def tyCells (k n : Int) (s : List UInt8) (Al : Option Addr) (nl cl : Nat) (Ar : Option Addr) (nr cr : Nat) (tl : Int) : List Value :=
  [.int .i64 k, .int .i64 n, .string (strB s), .slice Al nl cl, .slice Ar nr cr, .int .i64 tl]
/-- the bounds of what is read -/
structure FitsT (k n : Int) (s : List UInt8) (ls : List (List UInt8 × Int)) (tl : Int) (nl cl cr : Nat) : Prop where
  hk : okN k
  hn : okN n
  hs : okS s
  htl : okN tl
  hls : ∀ x ∈ ls, okS x.1 ∧ okN x.2
  hcl : nl ≤ cl ∧ cl ≤ maxLen
  hcr : ls.length ≤ cr ∧ cr ≤ maxLen
mutual
/-- six cells are a type, whose blocks are of some kind -/
def RepT (P : Nat → Prop) (w : World) : Ty → List Value → Prop
  | .mk k n s l ls tl, cs => ∃ Al cl Ar cr, cs = tyCells k n s Al l.length cl Ar ls.length cr tl ∧ FitsT k n s ls tl l.length cl cr ∧ LabsAt P w Ar ls ∧
      (l ≠ [] → ∃ b off, Al = some ⟨b, off, none⟩ ∧ P b ∧ b < w.heap.size ∧ RepTL P w b off l)
def RepTL (P : Nat → Prop) (w : World) (b : Nat) : Nat → List Ty → Prop
  | _, [] => True
  | off, e :: r => (∃ cs, cs.length = 6 ∧ CellsAt w b off cs ∧ RepT P w e cs) ∧ RepTL P w b (off + 6) r
end
theorem LabsAt.keep {P : Nat → Prop} {w w' : World} {A : Option Addr} {L : List (List UInt8 × Int)} (h : LabsAt P w A L) (hs : Same P w w') : LabsAt P w' A L := fun h0 => by
  obtain ⟨b, off, e, hp, hlt, hc⟩ := h h0
  exact ⟨b, off, e, hp, Nat.lt_of_lt_of_le hlt hs.1, fun j l hj => ⟨(hs.cell hp hlt _).trans (hc j l hj).1, (hs.cell hp hlt _).trans (hc j l hj).2⟩⟩
theorem LabsAt.weaken {P Q : Nat → Prop} {w : World} {A : Option Addr} {L : List (List UInt8 × Int)} (h : LabsAt P w A L) (hq : ∀ b, P b → Q b) : LabsAt Q w A L := fun h0 => by
  obtain ⟨b, off, e, hp, hlt, hc⟩ := h h0
  exact ⟨b, off, e, hq _ hp, hlt, hc⟩
mutual
theorem RepT.keep {P : Nat → Prop} {w w' : World} (hs : Same P w w') : ∀ {e : Ty} {cs : List Value}, RepT P w e cs → RepT P w' e cs
  | .mk k n s l ls tl, cs, h => by
    obtain ⟨Al, cl, Ar, cr, e, hf, hn, hl⟩ := h
    refine ⟨Al, cl, Ar, cr, e, hf, hn.keep hs, fun h0 => ?_⟩
    obtain ⟨b, off, e, hp, hlt, hr⟩ := hl h0
    exact ⟨b, off, e, hp, Nat.lt_of_lt_of_le hlt hs.1, RepTL.keep hs hp hlt hr⟩
theorem RepTL.keep {P : Nat → Prop} {w w' : World} (hs : Same P w w') {b : Nat} (hp : P b) (hlt : b < w.heap.size) : ∀ {l : List Ty} {off : Nat}, RepTL P w b off l → RepTL P w' b off l
  | [], off, _ => trivial
  | e :: r, off, h => by
    obtain ⟨⟨cs, h7, hc, he⟩, hr⟩ := h
    exact ⟨⟨cs, h7, hc.keep hp hlt hs, RepT.keep hs he⟩, RepTL.keep hs hp hlt hr⟩
end
mutual
theorem RepT.weaken {P Q : Nat → Prop} {w : World} (hq : ∀ b, P b → Q b) : ∀ {e : Ty} {cs : List Value}, RepT P w e cs → RepT Q w e cs
  | .mk k n s l ls tl, cs, h => by
    obtain ⟨Al, cl, Ar, cr, e, hf, hn, hl⟩ := h
    refine ⟨Al, cl, Ar, cr, e, hf, hn.weaken hq, fun h0 => ?_⟩
    obtain ⟨b, off, e, hp, hlt, hr⟩ := hl h0
    exact ⟨b, off, e, hq _ hp, hlt, RepTL.weaken hq hr⟩
theorem RepTL.weaken {P Q : Nat → Prop} {w : World} (hq : ∀ b, P b → Q b) {b : Nat} : ∀ {l : List Ty} {off : Nat}, RepTL P w b off l → RepTL Q w b off l
  | [], off, _ => trivial
  | e :: r, off, h => by
    obtain ⟨⟨cs, h7, hc, he⟩, hr⟩ := h
    exact ⟨⟨cs, h7, hc, RepT.weaken hq he⟩, RepTL.weaken hq hr⟩
end
theorem RepTL.at {P : Nat → Prop} {w : World} {b : Nat} : ∀ {l : List Ty} {off j : Nat} {e : Ty}, RepTL P w b off l → l[j]? = some e → ∃ cs, cs.length = 6 ∧ CellsAt w b (off + j * 6) cs ∧ RepT P w e cs
  | [], off, j, e, _, h => by simp at h
  | x :: r, off, 0, e, hr, h => by
    simp only [List.getElem?_cons_zero, Option.some.injEq] at h
    subst h
    simpa using hr.1
  | x :: r, off, j + 1, e, hr, h => by
    simp only [List.getElem?_cons_succ] at h
    have := RepTL.at hr.2 h
    rwa [show off + 6 + j * 6 = off + (j + 1) * 6 by omega] at this
theorem RepTL.of {P : Nat → Prop} {w : World} {b : Nat} : ∀ {l : List Ty} {off : Nat}, (∀ j e, l[j]? = some e → ∃ cs, cs.length = 6 ∧ CellsAt w b (off + j * 6) cs ∧ RepT P w e cs) → RepTL P w b off l
  | [], off, _ => trivial
  | x :: r, off, h => by
    refine ⟨by simpa using h 0 x rfl, RepTL.of fun j e hj => ?_⟩
    have := h (j + 1) e (by simpa using hj)
    rwa [show off + (j + 1) * 6 = off + 6 + j * 6 by omega] at this
theorem Ty.ind {P : Ty → Prop} (h : ∀ e, (∀ x ∈ e.l, P x) → P e) : ∀ e, P e := by
  have key : ∀ (n : Nat) (e : Ty), SizeOf.sizeOf e ≤ n → P e := by
    intro n
    induction n with
    | zero => intro e he; cases e; simp at he
    | succ n ih =>
      intro e he
      refine h e fun x hx => ih x ?_
      cases e with
      | mk k m s l ls tl =>
        simp only [Ty.mk.sizeOf_spec] at he
        have := List.sizeOf_lt_of_mem (show x ∈ l from hx); omega
  exact fun e => key _ e (Nat.le_refl _)
/-- the six cells of a type -/
theorem RepT.shape {P : Nat → Prop} {w : World} {e : Ty} {cs : List Value} (h : RepT P w e cs) : ∃ k n s A0 n0 c0 A1 n1 c1 tl, cs = [.int .i64 k, .int .i64 n, .string s, .slice A0 n0 c0, .slice A1 n1 c1, .int .i64 tl] := by
  cases e
  obtain ⟨Al, cl, Ar, cr, e, _⟩ := h
  exact ⟨_, _, _, _, _, _, _, _, _, _, e⟩

section
variable {H : Type} {enc : TypeId × Value → H} {W : World} {sp : Nat → Bool} {held : Bool}
set_option maxRecDepth 100000 in
theorem label_of {f : Nat} {cs : List Value} {x : DataW H × List MemPlace} (h2 : cs.length = 2) (h : DataW.trod enc Tryz.prog W 0 sp held f 68 cs = some x) : ∃ y : List UInt8 × Int, (okS y.1 ∧ okN y.2) ∧ cs = [.string (strB y.1), .int .i64 y.2] := by
  obtain ⟨xs, m, hm, _, hl, hxl, hf⟩ := DataW.trod_struct Tryz.underlying68 h
  have hxl2 : xs.length = 2 := hxl
  have k3 : Tryz.prog.cellsOf 3 = 1 := by kernel_rfl
  have k9 : Tryz.prog.cellsOf 9 = 1 := by kernel_rfl
  match cs, h2, xs, hxl2 with
  | [c0, c1], _, [y0, y1], _ =>
    have f0 : DataW.trod enc Tryz.prog W 0 sp held m 9 [c0] = some y0 := by have := hf 0 _ rfl; simpa [k9] using this
    have f1 : DataW.trod enc Tryz.prog W 0 sp held m 3 [c1] = some y1 := by have := hf 1 _ rfl; simpa [k3] using this
    obtain ⟨s, e0, w0⟩ := str_of f0
    obtain ⟨n, e1, w1⟩ := int_of Tryz.underlying3 f1
    simp only [List.cons.injEq, and_true] at e0 e1
    subst e0; subst e1
    exact ⟨(s, n), ⟨w0, w1⟩, rfl⟩
theorem open_labels {cs : List Value} {x : DataW H × List MemPlace} {f : Nat} (h : DataW.trod enc Tryz.prog W 0 sp held f 24 cs = some x) :
    ∃ A c, ∃ L : List (List UInt8 × Int), cs = [.slice A L.length c] ∧ L.length ≤ c ∧ c ≤ maxLen ∧ LabsAt (fun _ => True) W A L ∧ ∀ s ∈ L, okS s.1 ∧ okN s.2 := by
  obtain ⟨A, c, L, e, hl, hm, hr⟩ := rows_of Tryz.underlying24 (k := 2) (by kernel_rfl) (by omega) h (fun cs' (y : List UInt8 × Int) => (okS y.1 ∧ okN y.2) ∧ cs' = [.string (strB y.1), .int .i64 y.2]) fun n cs' y _ h2 ht => label_of h2 ht
  refine ⟨A, c, L, e, hl, hm, fun h0 => ?_, fun s hs => ?_⟩
  · obtain ⟨b, off, ea, hlt, hp⟩ := hr h0
    refine ⟨b, off, ea, trivial, hlt, fun j l hj => ?_⟩
    obtain ⟨cs', _, hc, _, rfl⟩ := hp j l hj
    exact ⟨by have := hc 0 _ rfl; simpa using this, by have := hc 1 _ rfl; simpa using this⟩
  · obtain ⟨b, off, ea, hlt, hp⟩ := hr (List.ne_nil_of_mem hs)
    obtain ⟨i, hil, rfl⟩ := List.getElem_of_mem hs
    obtain ⟨_, _, _, h, _⟩ := hp i _ (List.getElem?_eq_getElem hil)
    exact h
set_option maxRecDepth 100000 in
theorem open_row {cs : List Value} {x : DataW H × List MemPlace} {f : Nat} (h2 : cs.length = 2) (h : DataW.trod enc Tryz.prog W 0 sp held f 26 cs = some x) :
    ∃ A c, ∃ L : List (List UInt8 × Int), ∃ tl, cs = [.slice A L.length c, .int .i64 tl] ∧ L.length ≤ c ∧ c ≤ maxLen ∧ LabsAt (fun _ => True) W A L ∧ (∀ s ∈ L, okS s.1 ∧ okN s.2) ∧ okN tl := by
  obtain ⟨xs, m, hm, _, hl, hxl, hf⟩ := DataW.trod_struct Tryz.underlying26 h
  have hxl2 : xs.length = 2 := hxl
  have k3 : Tryz.prog.cellsOf 3 = 1 := by kernel_rfl
  have kL : Tryz.prog.cellsOf 24 = 1 := by kernel_rfl
  match cs, h2, xs, hxl2 with
  | [c0, c1], _, [y0, y1], _ =>
    have f0 : DataW.trod enc Tryz.prog W 0 sp held m 24 [c0] = some y0 := by have := hf 0 _ rfl; simpa [kL] using this
    have f1 : DataW.trod enc Tryz.prog W 0 sp held m 3 [c1] = some y1 := by have := hf 1 _ rfl; simpa [k3] using this
    obtain ⟨A, c, L, e0, g1, g2, g3, g4⟩ := open_labels f0
    obtain ⟨n, e1, w1⟩ := int_of Tryz.underlying3 f1
    simp only [List.cons.injEq, and_true] at e0 e1
    subst e0; subst e1
    exact ⟨A, c, L, n, rfl, g1, g2, g3, g4, w1⟩
set_option maxRecDepth 100000 in
/-- six cells that read as a type -/
theorem open_ty (f : Nat) : ∀ {cs : List Value} {x : DataW H × List MemPlace}, cs.length = 6 → DataW.trod enc Tryz.prog W 0 sp held f 28 cs = some x → ∃ e, RepT (fun _ => True) W e cs := by
  induction f using Nat.strongRecOn with
  | ind f ih =>
    intro cs x h6 h
    obtain ⟨xs, m, hm, _, hl, hxl, hf⟩ := DataW.trod_struct Tryz.underlying28 h
    have hxl5 : xs.length = 5 := hxl
    have k0 : Tryz.prog.cellsOf 22 = 1 := by kernel_rfl
    have k3 : Tryz.prog.cellsOf 3 = 1 := by kernel_rfl
    have k9 : Tryz.prog.cellsOf 9 = 1 := by kernel_rfl
    have kL : Tryz.prog.cellsOf 23 = 1 := by kernel_rfl
    have kR : Tryz.prog.cellsOf 26 = 2 := by kernel_rfl
    match cs, h6, xs, hxl5 with
    | [c0, c1, c2, c3, c4, c5], _, [y0, y1, y2, y3, y4], _ =>
      have f0 : DataW.trod enc Tryz.prog W 0 sp held m 22 [c0] = some y0 := by have := hf 0 _ rfl; simpa [k0] using this
      have f1 : DataW.trod enc Tryz.prog W 0 sp held m 3 [c1] = some y1 := by have := hf 1 _ rfl; simpa [k3] using this
      have f2 : DataW.trod enc Tryz.prog W 0 sp held m 9 [c2] = some y2 := by have := hf 2 _ rfl; simpa [k9] using this
      have f3 : DataW.trod enc Tryz.prog W 0 sp held m 23 [c3] = some y3 := by have := hf 3 _ rfl; simpa [kL] using this
      have f4 : DataW.trod enc Tryz.prog W 0 sp held m 26 [c4, c5] = some y4 := by have := hf 4 _ rfl; simpa [kR] using this
      obtain ⟨k, e0, w0⟩ := int_of Tryz.underlying22 f0
      obtain ⟨n, e1, w1⟩ := int_of Tryz.underlying3 f1
      obtain ⟨s, e2, w2⟩ := str_of f2
      obtain ⟨Al, cl, l, e3, hl1, hl2, hL⟩ := rows_of Tryz.underlying23 (k := 6) (by kernel_rfl) (by omega) f3 (fun cs' e => RepT (fun _ => True) W e cs') fun n cs' y hlt h7 ht => ih n (by omega) h7 ht
      obtain ⟨Ar, cr, ls, tl, e4, hr1, hr2, hr3, hr4, hr5⟩ := open_row rfl f4
      simp only [List.cons.injEq, and_true] at e0 e1 e2 e3 e4
      obtain ⟨e4, e5⟩ := e4
      subst e0; subst e1; subst e2; subst e3; subst e4; subst e5
      refine ⟨.mk k n s l ls tl, Al, cl, Ar, cr, rfl, ⟨w0, w1, w2, hr5, hr4, ⟨hl1, hl2⟩, ⟨hr1, hr2⟩⟩, hr3, fun h0 => ?_⟩
      obtain ⟨b, off, e, hlt, hr⟩ := hL h0
      exact ⟨b, off, e, trivial, hlt, RepTL.of hr⟩
/-- an argument that is a type -/
theorem open_type {v : Value} {d : DataW H} {p : List MemPlace} (h : DataW.Trod enc Tryz.prog W 0 sp held 28 v d p) : ∃ e, v.cells.toList.length = 6 ∧ RepT (fun _ => True) W e v.cells.toList := by
  obtain ⟨fuel, hf⟩ := h
  obtain ⟨_, _, _, _, hl, _, _⟩ := DataW.trod_struct Tryz.underlying28 hf
  have h6 : v.cells.toList.length = 6 := hl.trans (by kernel_rfl)
  obtain ⟨e, he⟩ := open_ty fuel h6 hf
  exact ⟨e, h6, he⟩
end
end Go.Proofs.YtbfojibhdadglaaGreatDoor
/- Lists of strings, compared: the reference's SameNames, slices.Equal. -/
namespace Go.Proofs.YtbfojibhdadglaaGreatDoor
open Go.RowKit

/-- a world that has only drawn -/
def Qt (w w' : World) : Prop := ∃ q, w' = w.drewN q
theorem Qt.refl (w : World) : Qt w w := ⟨0, rfl⟩
theorem Qt.drew {w w' : World} (h : Qt w w') : Qt w w'.drew := by
  obtain ⟨q, rfl⟩ := h
  exact ⟨q + 1, by simp [World.drewN, World.drew, Nat.add_assoc]⟩
theorem Qt.cell {w w' : World} (h : Qt w w') (a : Addr) : w'.cell? a = w.cell? a := by
  obtain ⟨q, rfl⟩ := h; rfl
theorem Qt.below {w w' : World} (h : Qt w w') : Below w.heap.size w w' := by
  obtain ⟨q, rfl⟩ := h
  exact ⟨rfl, rfl, rfl, Nat.le_refl _, fun _ _ => rfl⟩
end Go.Proofs.YtbfojibhdadglaaGreatDoor
/- Types in memory: parts, boxes; how deep; what the statements hold for too large. -/
namespace Go.Proofs.YtbfojibhdadglaaGreatDoor
open Go.RowKit

theorem LabsAt.tight {P : Nat → Prop} {w : World} {A : Option Addr} {L : List (List UInt8 × Int)} (h : LabsAt P w A L) : LabsAt (fun x => x < w.heap.size) w A L := fun h0 => by
  obtain ⟨b, off, e, _, hlt, hc⟩ := h h0
  exact ⟨b, off, e, hlt, hlt, hc⟩
mutual
theorem RepT.tight {P : Nat → Prop} {w : World} : ∀ {e : Ty} {cs : List Value}, RepT P w e cs → RepT (fun x => x < w.heap.size) w e cs
  | .mk k n s l ls tl, cs, h => by
    obtain ⟨Al, cl, Ar, cr, e, hf, hn, hl⟩ := h
    refine ⟨Al, cl, Ar, cr, e, hf, hn.tight, fun h0 => ?_⟩
    obtain ⟨b, off, e, _, hlt, hr⟩ := hl h0
    exact ⟨b, off, e, hlt, hlt, RepTL.tight hr⟩
theorem RepTL.tight {P : Nat → Prop} {w : World} {b : Nat} : ∀ {l : List Ty} {off : Nat}, RepTL P w b off l → RepTL (fun x => x < w.heap.size) w b off l
  | [], _, _ => trivial
  | _ :: _, _, h => by
    obtain ⟨⟨cs, h7, hc, he⟩, hr⟩ := h
    exact ⟨⟨cs, h7, hc, RepT.tight he⟩, RepTL.tight hr⟩
end
/-- a type's six cells fill block g -/
def TyBx (w : World) (g : Nat) (v0 v1 v2 v3 v4 v5 : Value) : Prop := w.heap[g]? = some (.cells #[v0, v1, v2, v3, v4, v5] 28 (0, 0))
section
variable {w w' : World} {g : Nat} {v0 v1 v2 v3 v4 v5 : Value}
theorem TyBx.lt (h : TyBx w g v0 v1 v2 v3 v4 v5) : g < w.heap.size := (Array.getElem?_eq_some_iff.1 h).1
theorem TyBx.c (h : TyBx w g v0 v1 v2 v3 v4 v5) : w.cell? ⟨g, 0, none⟩ = some v0 ∧ w.cell? ⟨g, 1, none⟩ = some v1 ∧ w.cell? ⟨g, 2, none⟩ = some v2 ∧ w.cell? ⟨g, 3, none⟩ = some v3 ∧ w.cell? ⟨g, 4, none⟩ = some v4 ∧ w.cell? ⟨g, 5, none⟩ = some v5 :=
  ⟨cell_of_row w g 0 _ _ (0, 0) h, cell_of_row w g 1 _ _ (0, 0) h, cell_of_row w g 2 _ _ (0, 0) h, cell_of_row w g 3 _ _ (0, 0) h, cell_of_row w g 4 _ _ (0, 0) h, cell_of_row w g 5 _ _ (0, 0) h⟩
theorem TyBx.new (w : World) (v0 v1 v2 v3 v4 v5 : Value) : TyBx (w.alloc (.cells #[v0, v1, v2, v3, v4, v5] 28)) w.heap.size v0 v1 v2 v3 v4 v5 := heap_alloc_new w _
theorem TyBx.kept (h : TyBx w g v0 v1 v2 v3 v4 v5) {row : Option Nat} (hg : w.grownBy w' row) (hne : some g ≠ row) : TyBx w' g v0 v1 v2 v3 v4 v5 := (hg.block g h.lt hne).trans h
end
/-- the cells of a part of a type -/
structure TCells (B : Nat) (w : World) (b o : Nat) (e : Ty) (k n : Int) (s : ByteArray) (A0 : Option Addr) (n0 c0 : Nat) (A1 : Option Addr) (n1 c1 : Nat) (tl : Int) : Prop where
  rep : RepT (fun b => b < B) w e [.int .i64 k, .int .i64 n, .string s, .slice A0 n0 c0, .slice A1 n1 c1, .int .i64 tl]
  d0 : w.cell? ⟨b, o, none⟩ = some (.int .i64 k)
  d1 : w.cell? ⟨b, o + 1, none⟩ = some (.int .i64 n)
  d2 : w.cell? ⟨b, o + 2, none⟩ = some (.string s)
  d3 : w.cell? ⟨b, o + 3, none⟩ = some (.slice A0 n0 c0)
  d4 : w.cell? ⟨b, o + 4, none⟩ = some (.slice A1 n1 c1)
  d5 : w.cell? ⟨b, o + 5, none⟩ = some (.int .i64 tl)
def TParts (B : Nat) (w : World) (A : Option Addr) (l : List Ty) : Prop :=
  l ≠ [] → ∃ b off, A = some ⟨b, off, none⟩ ∧ b < B ∧ b < w.heap.size ∧ ∀ j e, l[j]? = some e → ∃ k n s A0 n0 c0 A1 n1 c1 tl, TCells B w b (off + j * 6) e k n s A0 n0 c0 A1 n1 c1 tl
theorem tparts_of {B : Nat} {w : World} {l : List Ty} {Al : Option Addr} (h : l ≠ [] → ∃ b off, Al = some ⟨b, off, none⟩ ∧ b < B ∧ b < w.heap.size ∧ RepTL (fun b => b < B) w b off l) : TParts B w Al l := fun h0 => by
  obtain ⟨b, off, rfl, hb, hlt, hr⟩ := h h0
  refine ⟨b, off, rfl, hb, hlt, fun j e hj => ?_⟩
  obtain ⟨cs, h7, hc, hr⟩ := RepTL.at hr hj
  obtain ⟨k, n, s, A0, n0, c0, A1, n1, c1, tl, rfl⟩ := hr.shape
  exact ⟨k, n, s, A0, n0, c0, A1, n1, c1, tl, hr, hc 0 _ rfl, hc 1 _ rfl, hc 2 _ rfl, hc 3 _ rfl, hc 4 _ rfl, hc 5 _ rfl⟩
theorem TParts.below {B : Nat} {w w' : World} {A : Option Addr} {l : List Ty} (h : TParts B w A l) (hb : Below w.heap.size w w') : TParts B w' A l := fun h0 => by
  obtain ⟨b, off, e, h1, h2, hc⟩ := h h0
  have kk : ∀ o, w'.cell? ⟨b, o, none⟩ = w.cell? ⟨b, o, none⟩ := fun o => Below.cell (p := ⟨b, o, none⟩) hb h2
  refine ⟨b, off, e, h1, Nat.lt_of_lt_of_le h2 hb.size, fun j e hj => ?_⟩
  obtain ⟨k, n, s, A0, n0, c0, A1, n1, c1, tl, H⟩ := hc j e hj
  exact ⟨k, n, s, A0, n0, c0, A1, n1, c1, tl, H.rep.keep (Same.of_below hb), (kk _).trans H.d0, (kk _).trans H.d1, (kk _).trans H.d2, (kk _).trans H.d3, (kk _).trans H.d4, (kk _).trans H.d5⟩
theorem TParts.addr {B : Nat} {w : World} {A : Option Addr} {l : List Ty} (h : TParts B w A l) (h0 : 0 < l.length) : ∃ b off, A = some ⟨b, off, none⟩ := by
  obtain ⟨b, off, e, _⟩ := h (List.ne_nil_of_length_pos h0)
  exact ⟨b, off, e⟩
theorem TParts.at {B : Nat} {w : World} {b off : Nat} {l : List Ty} (h : TParts B w (some ⟨b, off, none⟩) l) {j : Nat} {e : Ty} (hj : l[j]? = some e) : b < w.heap.size ∧ ∃ k n s A0 n0 c0 A1 n1 c1 tl, TCells B w b (off + j * 6) e k n s A0 n0 c0 A1 n1 c1 tl := by
  obtain ⟨b', off', e', hb, hlt, hc⟩ := h (fun h0 => by rw [h0] at hj; simp at hj)
  injection e' with e'
  injection e' with e1 e2 e3
  subst e1; subst e2
  exact ⟨hlt, hc j e hj⟩
theorem TCells.up {B b o : Nat} {w W1 : World} {e : Ty} {k n : Int} {s : ByteArray} {A0 : Option Addr} {n0 c0 : Nat} {A1 : Option Addr} {n1 c1 : Nat} {tl : Int} (h : TCells B w b o e k n s A0 n0 c0 A1 n1 c1 tl) (hb : b < w.heap.size) (hB : Below w.heap.size w W1) :
    W1.cell? ⟨b, o, none⟩ = some (.int .i64 k) ∧ W1.cell? ⟨b, o + 1, none⟩ = some (.int .i64 n) ∧ W1.cell? ⟨b, o + 2, none⟩ = some (.string s) ∧ W1.cell? ⟨b, o + 3, none⟩ = some (.slice A0 n0 c0) ∧ W1.cell? ⟨b, o + 4, none⟩ = some (.slice A1 n1 c1) ∧ W1.cell? ⟨b, o + 5, none⟩ = some (.int .i64 tl) := by
  have k : ∀ o, W1.cell? ⟨b, o, none⟩ = w.cell? ⟨b, o, none⟩ := fun o => Below.cell (p := ⟨b, o, none⟩) hB hb
  exact ⟨(k _).trans h.d0, (k _).trans h.d1, (k _).trans h.d2, (k _).trans h.d3, (k _).trans h.d4, (k _).trans h.d5⟩

mutual
def hT : Ty → Nat
  | .mk _ _ _ l _ _ => 1 + hTL l
def hTL : List Ty → Nat
  | [] => 0
  | x :: r => max (hT x) (hTL r)
end
theorem hTL_mem : ∀ {l : List Ty} {x : Ty}, x ∈ l → hT x ≤ hTL l
  | y :: r, x, h => by
    rcases List.mem_cons.1 h with rfl | h
    · rw [hTL]; exact Nat.le_max_left _ _
    · rw [hTL]; exact Nat.le_trans (hTL_mem h) (Nat.le_max_right _ _)
theorem hT_eq (t : Ty) : hT t = 1 + hTL t.l := by cases t; rw [hT]; rfl

/-- some label's name is too long -/
def longLs (ls : List (Txt × Int)) : Bool := ls.any fun x => decide (100 < x.1.length)
mutual
/-- how many more nodes there may be; below 0: there are more -/
def tleftP : Ty → Int → Int → Int
  | .mk _ _ s l ls _, nodes, d => if d < 1 ∨ 100 < s.length ∨ 50 < l.length ∨ 50 < ls.length ∨ longLs ls = true then -1 else tleftL l (nodes - 1) (d - 1)
def tleftL : List Ty → Int → Int → Int
  | [], nodes, _ => nodes
  | e :: r, nodes, d => if nodes < 0 then nodes else tleftL r (tleftP e nodes d) d
end
theorem tleftL_neg (l : List Ty) (nodes d : Int) (h : nodes < 0) : tleftL l nodes d = nodes := by
  cases l with
  | nil => rfl
  | cons e r => rw [tleftL, if_pos h]
mutual
theorem tleftP_le : ∀ (e : Ty) (nodes d : Int), 0 ≤ nodes → tleftP e nodes d ≤ nodes ∧ -1 ≤ tleftP e nodes d
  | .mk k n s l ls tl, nodes, d, h => by
    rw [tleftP]
    split
    · omega
    · have h1 := tleftL_le l (nodes - 1) (d - 1) (by omega)
      omega
theorem tleftL_le : ∀ (l : List Ty) (nodes d : Int), -1 ≤ nodes → tleftL l nodes d ≤ nodes ∧ -1 ≤ tleftL l nodes d
  | [], nodes, d, h => by rw [tleftL]; omega
  | e :: r, nodes, d, h => by
    rw [tleftL]
    split
    · omega
    · have h1 := tleftP_le e nodes d (by omega)
      have h2 := tleftL_le r (tleftP e nodes d) d h1.2
      omega
end
theorem tleftL_snoc : ∀ (l : List Ty) (e : Ty) (nodes d : Int), tleftL (l ++ [e]) nodes d = if tleftL l nodes d < 0 then tleftL l nodes d else tleftP e (tleftL l nodes d) d
  | [], e, nodes, d => by simp only [List.nil_append, tleftL]; rfl
  | x :: r, e, nodes, d => by
    rw [List.cons_append, tleftL, tleftL]
    by_cases h : nodes < 0
    · simp only [if_pos h]
    · simp only [if_neg h]
      exact tleftL_snoc r e _ d
theorem tleftL_app : ∀ (a b : List Ty) (nodes d : Int), tleftL (a ++ b) nodes d = tleftL b (tleftL a nodes d) d
  | [], b, nodes, d => by rw [List.nil_append, tleftL]
  | x :: r, b, nodes, d => by
    rw [List.cons_append, tleftL, tleftL]
    by_cases h : nodes < 0
    · simp only [if_pos h]; rw [tleftL_neg _ _ _ h]
    · simp only [if_neg h]; exact tleftL_app r b _ d
theorem tleftL_end {l : List Ty} {j : Nat} {nodes d N : Int} (hN : N = tleftL (l.take j) nodes d) (h : N < 0 ∨ l.length ≤ j) : N = tleftL l nodes d := by
  rcases h with h | h
  · have := tleftL_app (l.take j) (l.drop j) nodes d
    rw [List.take_append_drop, ← hN, tleftL_neg _ _ _ h] at this
    exact this.symm
  · rw [hN, List.take_of_length_le h]
theorem tleftL_step {l : List Ty} {j : Nat} {nodes d N : Int} {e : Ty} (hN : N = tleftL (l.take j) nodes d) (h : 0 ≤ N) (he : l[j]? = some e) : tleftP e N d = tleftL (l.take (j + 1)) nodes d := by
  have hj := (List.getElem?_eq_some_iff.1 he).1
  rw [List.take_succ_eq_append_getElem hj, tleftL_snoc, ← hN, if_neg (by omega)]
  rw [List.getElem?_eq_getElem hj, Option.some.injEq] at he
  rw [he]
mutual
theorem tleftP_hT : ∀ (e : Ty) (nodes d : Int), 0 ≤ tleftP e nodes d → (hT e : Int) ≤ d
  | .mk k n s l ls tl, nodes, d, h => by
    rw [tleftP] at h
    split at h
    · omega
    · rename_i hc
      have c1 : ¬ d < 1 := fun h => hc (.inl h)
      have g1 := tleftL_hT l (nodes - 1) (d - 1) h
      rw [hT]
      rcases g1 with rfl | g1
      · simp only [hTL]; omega
      · omega
theorem tleftL_hT : ∀ (l : List Ty) (nodes d : Int), 0 ≤ tleftL l nodes d → l = [] ∨ (hTL l : Int) ≤ d
  | [], nodes, d, _ => .inl rfl
  | e :: r, nodes, d, h => by
    rw [tleftL] at h
    split at h
    · omega
    · have h1 : 0 ≤ tleftP e nodes d := by
        by_cases h0 : tleftP e nodes d < 0
        · rw [tleftL_neg _ _ _ h0] at h; omega
        · omega
      have g1 := tleftP_hT e nodes d h1
      have g2 := tleftL_hT r _ d h
      right
      rw [hTL]
      rcases g2 with rfl | g2
      · simp only [hTL]; omega
      · omega
end
def greatT (t : Ty) : Bool := decide (tleftP t 4000 250 < 0)
theorem greatT_hT {t : Ty} (h : greatT t = false) : hT t ≤ 250 := by
  unfold greatT at h
  have := tleftP_hT t 4000 250 (by simpa using h)
  omega
/-- types, compared -/
def hdT (a b : Ty) : Bool := decide (a.k = b.k) && (decide (a.n = b.n) && (decide (a.s = b.s) && (decide (a.ls = b.ls) && decide (a.tl = b.tl))))
mutual
def sameT : Ty → Ty → Bool
  | .mk k n s l ls tl, .mk k' n' s' l' ls' tl' => hdT (.mk k n s l ls tl) (.mk k' n' s' l' ls' tl') && sameTL l l'
def sameTL : List Ty → List Ty → Bool
  | [], [] => true
  | x :: r, y :: q => sameT x y && sameTL r q
  | _, _ => false
end
theorem sameT_eq (a b : Ty) : sameT a b = (hdT a b && sameTL a.l b.l) := by
  cases a; cases b; rw [sameT]; rfl
theorem sameTL_len : ∀ {l m : List Ty}, sameTL l m = true → l.length = m.length
  | [], [], _ => rfl
  | [], _ :: _, h => by simp [sameTL] at h
  | _ :: _, [], h => by simp [sameTL] at h
  | x :: r, y :: q, h => by
    rw [sameTL, Bool.and_eq_true] at h
    rw [List.length_cons, List.length_cons, sameTL_len h.2]
theorem sameTL_snoc : ∀ {l m : List Ty} (x y : Ty), l.length = m.length → sameTL (l ++ [x]) (m ++ [y]) = (sameTL l m && sameT x y)
  | [], [], x, y, _ => by simp [sameTL]
  | [], _ :: _, _, _, h => by simp at h
  | _ :: _, [], _, _, h => by simp at h
  | a :: r, b :: q, x, y, h => by
    rw [List.cons_append, List.cons_append, sameTL, sameTL, sameTL_snoc x y (by simpa using h), Bool.and_assoc]
theorem sameTL_part : ∀ {l m : List Ty} (k : Nat) (x y : Ty), l[k]? = some x → m[k]? = some y → sameT x y = false → sameTL l m = false
  | [], _, k, _, _, h, _, _ => by simp at h
  | _ :: _, [], k, _, _, _, h, _ => by simp at h
  | a :: r, b :: q, 0, x, y, h1, h2, h => by
    simp at h1 h2; subst h1; subst h2
    rw [sameTL, h]; rfl
  | a :: r, b :: q, k + 1, x, y, h1, h2, h => by
    rw [sameTL, sameTL_part k x y (by simpa using h1) (by simpa using h2) h, Bool.and_false]
end Go.Proofs.YtbfojibhdadglaaGreatDoor
/- GreatType: whether a type is too large for the statements. -/
namespace Go.Proofs.YtbfojibhdadglaaGreatDoor
open Go.RowKit

/-- what typeLeft answers for a type -/
def TlSays (e : Ty) : Prop := ∀ (cs : List Value) (nodes d : Int) (w : World), RepT (fun _ => True) w e cs → 0 ≤ nodes → nodes ≤ 4000 → 0 ≤ d → d ≤ 250 →
  Calls Tryz.prog 11 #[.agg cs.toArray, .int .i64 nodes, .int .i64 d] w fun e' w' => e' = .returned (.int .i64 (tleftP e nodes d)) ∧ Below w.heap.size w w'
set_option maxRecDepth 100000 in
set_option maxHeartbeats 4000000 in
theorem tleft_any : ∀ e, TlSays e := by
  refine Ty.ind fun e ih cs nodes d w h1 n1 n2 d1 d2 => ?_
  cases e with
  | mk k n s l ls tl =>
  have h1' := h1.tight
  obtain ⟨Al, cl, Ar, cr, rfl, hf, hls, hl⟩ := h1'
  have hPl : TParts w.heap.size w Al l := tparts_of hl
  obtain ⟨S, hS⟩ : ∃ S, S = strB s := ⟨_, rfl⟩
  have HS : Hid (S.size = s.length) := Lib.hid (by rw [hS, strB_size])
  obtain ⟨nl, hnl⟩ : ∃ q, q = l.length := ⟨_, rfl⟩
  obtain ⟨nr, hnr⟩ : ∃ q, q = ls.length := ⟨_, rfl⟩
  have hl2 : (nl : Int) ≤ 9223372036854775807 := by have := hf.hcl; unfold maxLen at this; omega
  have hr2 : (nr : Int) ≤ 9223372036854775807 := by have := hf.hcr; unfold maxLen at this; omega
  obtain ⟨R, hR⟩ : ∃ R, R = tleftP (.mk k n s l ls tl) nodes d := ⟨_, rfl⟩
  show Calls Tryz.prog 11 #[.agg #[.int .i64 k, .int .i64 n, .string (strB s), .slice Al l.length cl, .slice Ar ls.length cr, .int .i64 tl], .int .i64 nodes, .int .i64 d] w fun e' w' => e' = .returned (.int .i64 (tleftP (.mk k n s l ls tl) nodes d)) ∧ Below w.heap.size w w'
  rw [← hR, ← hS, ← hnl, ← hnr]
  rw [tleftP] at hR
  have HNl := Lib.hid hnl
  have HNr := Lib.hid hnr
  have HPl := Lib.hid hPl
  have HLs := Lib.hid hls
  have HIH := Lib.hid ih
  obtain ⟨W1, hW1⟩ : ∃ W1, w.alloc (.cells #[.int .i64 k, .int .i64 n, .string S, .slice Al nl cl, .slice Ar nr cr, .int .i64 tl] 28) = W1 := ⟨_, rfl⟩
  have HB1 : Hid (Below w.heap.size w W1) := Lib.hid (by rw [← hW1]; exact (Below.refl _ _).alloc (Nat.le_refl _) _)
  have HE1 : Hid (TyBx W1 w.heap.size (.int .i64 k) (.int .i64 n) (.string S) (.slice Al nl cl) (.slice Ar nr cr) (.int .i64 tl)) := Lib.hid (by rw [← hW1]; exact TyBx.new w _ _ _ _ _ _)
  have hzw : w.heap.size < W1.heap.size := by rw [← hW1]; simp
  obtain ⟨a0, a1, a2, a3, a4, a5⟩ := HE1.out.c
  clear h1 hf hls hl hPl ih hS
  by_cases g1 : d < 1 ∨ 100 < S.size ∨ 50 < nl ∨ 50 < nr
  · have HR : Hid (R = -1) := Lib.hid (by
      rw [hR]
      refine if_pos ?_
      rw [HS.out, HNl.out, HNr.out] at g1
      rcases g1 with h | h | h | h
      · exact .inl h
      · exact .inr (.inl h)
      · exact .inr (.inr (.inl h))
      · exact .inr (.inr (.inr (.inl h))))
    clear hR hnl hnr
    by_cases c1 : d < 1
    · have b1 : decide (d < 1) = true := decide_eq_true c1
      clear g1
      go_enter Tryz.func11, Tryz.ntmps11
      go_wp2_with fail
      go_ret
      exact ⟨by rw [HR.out]; rfl, HB1.out⟩
    have b1 : decide (d < 1) = false := decide_eq_false c1
    by_cases c2 : 100 < S.size
    · have b2 : decide ((100 : Int) < (S.size : Int)) = true := decide_eq_true (by omega)
      clear g1 c1
      go_enter Tryz.func11, Tryz.ntmps11
      go_wp2_with fail
      go_ret
      exact ⟨by rw [HR.out]; rfl, HB1.out⟩
    have b2 : decide ((100 : Int) < (S.size : Int)) = false := decide_eq_false (by omega)
    by_cases c3 : 50 < nl
    · have b3 : decide ((50 : Int) < (nl : Int)) = true := decide_eq_true (by omega)
      clear g1 c1 c2
      go_enter Tryz.func11, Tryz.ntmps11
      go_wp2_with fail
      go_ret
      exact ⟨by rw [HR.out]; rfl, HB1.out⟩
    have b3 : decide ((50 : Int) < (nl : Int)) = false := decide_eq_false (by omega)
    have b4 : decide ((50 : Int) < (nr : Int)) = true := decide_eq_true (by omega)
    clear g1 c1 c2 c3
    go_enter Tryz.func11, Tryz.ntmps11
    go_wp2_with fail
    go_ret
    exact ⟨by rw [HR.out]; rfl, HB1.out⟩
  · have b1 : decide (d < 1) = false := decide_eq_false (by omega)
    have b2 : decide ((100 : Int) < (S.size : Int)) = false := decide_eq_false (by omega)
    have b3 : decide ((50 : Int) < (nl : Int)) = false := decide_eq_false (by omega)
    have b4 : decide ((50 : Int) < (nr : Int)) = false := decide_eq_false (by omega)
    have q1 : 1 ≤ d := by omega
    have q3 : nl ≤ 50 := by omega
    have q4 : nr ≤ 50 := by omega
    have HR1 : Hid (longLs ls = true → R = -1) := Lib.hid (fun h => by rw [hR]; exact if_pos (.inr (.inr (.inr (.inr h)))))
    have HR2 : Hid (longLs ls = false → R = tleftL l (nodes - 1) (d - 1)) := Lib.hid (fun h => by
      rw [hR]
      refine if_neg ?_
      rw [HS.out, HNl.out, HNr.out] at g1
      rintro (g | g | g | g | g)
      · exact g1 (.inl g)
      · exact g1 (.inr (.inl g))
      · exact g1 (.inr (.inr (.inl g)))
      · exact g1 (.inr (.inr (.inr g)))
      · rw [h] at g; cases g)
    clear hR hnl hnr g1
    go_enter Tryz.func11, Tryz.ntmps11
    go_wp2_with fail
    clear hW1
    go_loop [7] (fun i => ∃ k : Nat, k ≤ nr ∧ i = .int .i64 (k : Int) ∧ Hid (∀ (j : Nat) (x : Txt × Int), j < k → ls[j]? = some x → x.1.length ≤ 100)) (fun i => nr - (intOf i).toNat)
    case atStart => exact ⟨0, by omega, rfl, Lib.hid (fun j x h => by omega)⟩
    case round =>
      obtain ⟨kk, hkk, rfl, HA⟩ := hrel
      by_cases hkl : kk < nr
      · have hkl' : kk < ls.length := by rw [← HNr.out]; exact hkl
        obtain ⟨x, hx⟩ : ∃ x, x = ls[kk] := ⟨_, rfl⟩
        have hxl : ls[kk]? = some x := by rw [hx]; exact List.getElem?_eq_getElem hkl'
        obtain ⟨b, off, rfl, _, hlt, hc⟩ := HLs.out (List.ne_nil_of_length_pos (by omega))
        have d1 := (Below.cell (p := ⟨b, _, none⟩) HB1.out hlt).trans (hc kk x hxl).1
        have i0 : (0 : Int) ≤ (kk : Int) := by omega
        have i1 : (kk : Int) < (nr : Int) := by omega
        obtain ⟨X, hX⟩ : ∃ X, X = strB x.1 := ⟨_, rfl⟩
        have HX : Hid (X.size = x.1.length) := Lib.hid (by rw [hX, strB_size])
        have HXl := Lib.hid hxl
        rw [← hX] at d1
        clear hc hx hxl hX hlt
        by_cases g1 : 100 < X.size
        · have g2 : (100 : Int) < (X.size : Int) := by omega
          have HRf := Lib.hid (HR1.out (by
            unfold longLs
            rw [List.any_eq_true]
            exact ⟨x, List.mem_of_getElem? HXl.out, decide_eq_true (by rw [← HX.out]; exact g1)⟩))
          go_wp2_with fail
          go_ret
          exact ⟨by rw [HRf.out]; rfl, HB1.out⟩
        · have g2 : (X.size : Int) ≤ 100 := by omega
          have HA2 : Hid (∀ (j : Nat) (x : Txt × Int), j < kk + 1 → ls[j]? = some x → x.1.length ≤ 100) := Lib.hid (fun j y hj hy => by
            by_cases e : j = kk
            · subst e
              have := Option.some.inj (hy.symm.trans HXl.out)
              rw [this, ← HX.out]; omega
            · exact HA.out j y (by omega) hy)
          clear HA
          go_wp2_with fail
          go_round
          case rel => exact ⟨kk + 1, by omega, by go_num, HA2⟩
          case measure => simp [intOf]; omega
      · obtain rfl : kk = nr := by omega
        have HR3 := Lib.hid (HR2.out (by
          unfold longLs
          rw [Bool.eq_false_iff, ne_eq, List.any_eq_true]
          rintro ⟨x, hx, h⟩
          obtain ⟨j, hj, rfl⟩ := List.getElem_of_mem hx
          have h1 := HA.out j _ (by rw [HNr.out]; exact hj) (List.getElem?_eq_getElem hj)
          have h2 := of_decide_eq_true h
          omega))
        clear HA HR1 HR2
        go_wp2_with fail
        go_loopw [1, 8] (fun v i wr => ∃ (j : Nat) (N : Int), j ≤ nl ∧ -1 ≤ N ∧ N ≤ 3999 ∧ i = .int .i64 (j : Int) ∧ v = .int .i64 N ∧ Hid (N = tleftL (l.take j) (nodes - 1) (d - 1)) ∧ Hid (Below W1.heap.size W1 wr)) (fun v i _ => nl - (intOf i).toNat)
        case atStart => exact ⟨0, nodes - 1, by omega, by omega, by omega, rfl, rfl, Lib.hid (by rw [List.take_zero, tleftL]), Lib.hid (Below.refl _ _)⟩
        case round =>
          clear a0 a1 a2 a3 a4 a5
          obtain ⟨j, N, hj, hN1, hN2, rfl, rfl, HNJ, HBw⟩ := hrel
          have HB := Lib.hid (HB1.out.trans (HBw.out.mono HB1.out.size))
          have HEr : Hid (TyBx wr w.heap.size (.int .i64 k) (.int .i64 n) (.string S) (.slice Al nl cl) (.slice Ar kk cr) (.int .i64 tl)) := Lib.hid (HE1.out.kept (grown_below HBw.out none) (by simp))
          obtain ⟨a0, a1, a2, a3, a4, a5⟩ := HEr.out.c
          have i0 : (0 : Int) ≤ (j : Int) := by omega
          by_cases hjl : j < nl
          · have i1 : (j : Int) < (nl : Int) := by omega
            have g1 : decide (j < nl) = true := decide_eq_true hjl
            by_cases h0 : 0 ≤ N
            · have g2 : decide (0 ≤ N) = true := decide_eq_true h0
              have hjl' : j < l.length := by rw [← HNl.out]; exact hjl
              obtain ⟨x, hx⟩ : ∃ x, x = l[j] := ⟨_, rfl⟩
              have hxl : l[j]? = some x := by rw [hx]; exact List.getElem?_eq_getElem hjl'
              obtain ⟨b, off, rfl⟩ := HPl.out.addr (by omega)
              obtain ⟨hbx, k1, m1, s1, X0, p0, c0, X1, p1, c1, t1, hcx⟩ := HPl.out.at hxl
              obtain ⟨f0, f1, f2, f3, f4, f5⟩ := hcx.up hbx HB.out
              have hle := tleftP_le x N (d - 1) h0
              obtain ⟨N', hN'⟩ : ∃ N', N' = tleftP x N (d - 1) := ⟨_, rfl⟩
              have HNN : Hid (N' = tleftL (l.take (j + 1)) (nodes - 1) (d - 1)) := Lib.hid (by rw [hN']; exact tleftL_step HNJ.out h0 hxl)
              have HI : Hid (Calls Tryz.prog 11 #[.agg #[.int .i64 k1, .int .i64 m1, .string s1, .slice X0 p0 c0, .slice X1 p1 c1, .int .i64 t1], .int .i64 N, .int .i64 (d - 1)] wr fun e' w' => e' = .returned (.int .i64 N') ∧ Below wr.heap.size wr w') := Lib.hid (by
                rw [hN']
                exact HIH.out x (List.mem_of_getElem? hxl) _ N (d - 1) wr ((hcx.rep.weaken (Q := fun _ => True) (fun _ _ => trivial)).keep (Same.of_below HB.out)) h0 (by omega) (by omega) (by omega))
              rw [← hN'] at hle
              obtain ⟨hle1, hle2⟩ := hle
              clear hx hxl hcx hN' hbx
              go_wp2_with fail
              refine HI.out.mono ?_
              rintro e w' ⟨rfl, hb⟩
              have HB2 := Lib.hid (HBw.out.trans (hb.mono HBw.out.size))
              clear hb
              go_wp2_with fail
              go_roundw
              case rel => exact ⟨j + 1, N', by omega, by omega, by omega, by go_num, rfl, HNN, HB2⟩
              case measure => simp [intOf]; omega
            · have g2 : decide (0 ≤ N) = false := decide_eq_false h0
              have HRn : Hid (R = N) := Lib.hid (by rw [HR3.out]; exact (tleftL_end HNJ.out (.inl (by omega))).symm)
              go_wp2_with fail
              go_ret
              exact ⟨by rw [HRn.out]; rfl, HB.out⟩
          · have g1 : decide (j < nl) = false := decide_eq_false hjl
            have HRn : Hid (R = N) := Lib.hid (by rw [HR3.out]; exact (tleftL_end HNJ.out (.inr (by rw [← HNl.out]; omega))).symm)
            go_wp2_with fail
            go_ret
            exact ⟨by rw [HRn.out]; rfl, HB.out⟩
set_option maxRecDepth 100000 in
set_option maxHeartbeats 1000000 in
theorem GreatType_any (e : Ty) (v0 v1 v2 v3 v4 v5 : Value) (w : World) (h : RepT (fun _ => True) w e [v0, v1, v2, v3, v4, v5]) :
    Calls Tryz.prog 4 #[.agg #[v0, v1, v2, v3, v4, v5]] w fun r w' => r = .returned (.bool (greatT e)) ∧ Below w.heap.size w w' := by
  have HT := Lib.hid (fun w' (hb : Below w.heap.size w w') => tleft_any e _ 4000 250 w' (h.keep (Same.of_below hb)) (by omega) (by omega) (by omega) (by omega))
  obtain ⟨k, n, s, A0, n0, c0, A1, n1, c1, tl, hsh⟩ := h.shape
  simp only [List.cons.injEq, and_true] at hsh
  obtain ⟨rfl, rfl, rfl, rfl, rfl, rfl⟩ := hsh
  obtain ⟨M, hM⟩ : ∃ M, M = tleftP e 4000 250 := ⟨_, rfl⟩
  obtain ⟨R, hR⟩ : ∃ R, R = greatT e := ⟨_, rfl⟩
  have HR : Hid (R = decide (M < 0)) := Lib.hid (by rw [hR, hM]; rfl)
  rw [← hM] at HT
  rw [← hR]
  have HB0 : Hid (Below w.heap.size w (w.alloc (.cells #[.int .i64 k, .int .i64 n, .string s, .slice A0 n0 c0, .slice A1 n1 c1, .int .i64 tl] 28))) := Lib.hid ((Below.refl _ _).alloc (Nat.le_refl _) _)
  clear hM hR h
  go_enter Tryz.func4, Tryz.ntmps4
  go_wp2_with fail
  refine (HT.out _ HB0.out).mono ?_
  rintro r w2 ⟨rfl, hb⟩
  have HB2 := Lib.hid (HB0.out.trans (hb.mono HB0.out.size))
  clear hb
  go_wp2_with fail
  go_ret
  exact ⟨by rw [HR.out]; rfl, HB2.out⟩
end Go.Proofs.YtbfojibhdadglaaGreatDoor
/- The reference's word, IsVar, IsUpper. -/
namespace Go.Proofs.YtbfojibhdadglaaGreatDoor
open Go.RowKit

/-- where a byte of no word lies -/
theorem kind0 {c : Int} (h : kindI c = 0) : c < 48 ∨ (57 < c ∧ c < 65) ∨ (90 < c ∧ c < 95) ∨ c = 96 ∨ 122 < c := by
  unfold kindI at h
  repeat' split at h
  all_goals omega
theorem kindn {c : Int} (h : kindI c ≠ 0) : (97 ≤ c ∧ c ≤ 122) ∨ (65 ≤ c ∧ c ≤ 90) ∨ (48 ≤ c ∧ c ≤ 57) ∨ c = 95 := by
  unfold kindI at h
  repeat' split at h
  all_goals omega
theorem kind1 {c : Int} : kindI c = 1 ↔ (97 ≤ c ∧ c ≤ 122) ∨ c = 95 := by
  unfold kindI
  repeat' split
  all_goals omega
theorem kind2 {c : Int} : kindI c = 2 ↔ 65 ≤ c ∧ c ≤ 90 := by
  unfold kindI
  repeat' split
  all_goals omega

set_option maxRecDepth 100000 in
set_option maxHeartbeats 4000000 in
theorem word_lower (s : ByteArray) (w : World) (hs : s.size ≤ maxLen) :
    Calls Tryz.prog 144 #[.string s, .int .u8 97, .int .u8 122, .bool true] w fun e w' => e = .returned (.bool (isNm 1 s.data.toList)) ∧ w = w' := by
  unfold maxLen at hs
  by_cases h0 : 1 ≤ s.size ∧ s.size ≤ 12
  · have HI : Hid (∀ w, Calls Tryz.prog 62 #[.int .i64 (s.size : Int), .int .i64 1, .int .i64 12] w fun e w' => e = .returned (.bool true) ∧ w = w') := fun w => (In_any _ _ _ w).mono fun e w' h => ⟨by rw [h.1]; apply ret_bool; simp; omega, h.2⟩
    have hp : 0 < s.size := by omega
    obtain ⟨h1, h2⟩ := h0
    by_cases hk : kindI ((s[0]'hp).toNat : Int) = 1
    · have HK := Lib.hid hk
      have hk' := kind1.1 hk
      clear hk
      rcases hk' with ⟨z1, z2⟩ | z
      · go_enter Tryz.func144, Tryz.ntmps144
        go_wp2_with (go_at_call 62; refine (HI.out _).mono ?_; rintro e w' ⟨rfl, rfl⟩)
        go_loop [9] (fun i => ∃ k : Nat, k ≤ s.size ∧ i = .int .i64 (k : Int) ∧ Hid (∀ (j : Nat) (h : j < s.size), j < k → kb s[j] ≠ 0)) (fun i => s.size - (intOf i).toNat)
        case atStart => exact ⟨0, by omega, rfl, fun j h h2 => by omega⟩
        case round =>
          obtain ⟨k, hk, rfl, HA⟩ := hrel
          by_cases hkl : k < s.size
          · by_cases hz : kindI ((s[k]'hkl).toNat : Int) = 0
            · have HR := Lib.hid (show isNm 1 s.data.toList = false from isNm_bad k (by rw [len_data]; exact hkl) hz)
              have hz' := kind0 hz
              have b95 : (((s[k]'hkl).toNat : Int) == 95) = false := by
                rw [beq_eq_false_iff_ne]; omega
              clear hz HA
              rcases hz' with y1 | ⟨y1, y2⟩ | ⟨y1, y2⟩ | y1 | y1
              all_goals first | (have y3 : ((s[k]'hkl).toNat : Int) ≤ 96 := (by omega); have y4 : 96 ≤ ((s[k]'hkl).toNat : Int) := (by omega); clear y1) | skip
              all_goals
                first | (have e97 : decide (97 ≤ ((s[k]'hkl).toNat : Int)) = true := decide_eq_true (by omega)) | (have e97 : decide (97 ≤ ((s[k]'hkl).toNat : Int)) = false := decide_eq_false (by omega))
                first | (have e122 : decide (((s[k]'hkl).toNat : Int) ≤ 122) = true := decide_eq_true (by omega)) | (have e122 : decide (((s[k]'hkl).toNat : Int) ≤ 122) = false := decide_eq_false (by omega))
                first | (have e65 : decide (65 ≤ ((s[k]'hkl).toNat : Int)) = true := decide_eq_true (by omega)) | (have e65 : decide (65 ≤ ((s[k]'hkl).toNat : Int)) = false := decide_eq_false (by omega))
                first | (have e90 : decide (((s[k]'hkl).toNat : Int) ≤ 90) = true := decide_eq_true (by omega)) | (have e90 : decide (((s[k]'hkl).toNat : Int) ≤ 90) = false := decide_eq_false (by omega))
                first | (have e48 : decide (48 ≤ ((s[k]'hkl).toNat : Int)) = true := decide_eq_true (by omega)) | (have e48 : decide (48 ≤ ((s[k]'hkl).toNat : Int)) = false := decide_eq_false (by omega))
                first | (have e57 : decide (((s[k]'hkl).toNat : Int) ≤ 57) = true := decide_eq_true (by omega)) | (have e57 : decide (((s[k]'hkl).toNat : Int) ≤ 57) = false := decide_eq_false (by omega))
                go_wp2_with fail
                go_ret
                exact ⟨ret_bool HR.out.symm, rfl⟩
            · have HA2 : Hid (∀ (j : Nat) (h : j < s.size), j < k + 1 → kb s[j] ≠ 0) := fun j h hj => by
                by_cases e : j = k
                · subst e; exact hz
                · exact HA.out j h (by omega)
              have hz' := kindn hz
              clear hz HA
              rcases hz' with ⟨y1, y2⟩ | ⟨y1, y2⟩ | ⟨y1, y2⟩ | y1
              · have b95 : (((s[k]'hkl).toNat : Int) == 95) = false := by rw [beq_eq_false_iff_ne]; omega
                go_wp2_with fail
                go_round
                case rel => exact ⟨k + 1, by omega, by go_num, HA2⟩
                case measure => simp [intOf]; omega
              · have b95 : (((s[k]'hkl).toNat : Int) == 95) = false := by rw [beq_eq_false_iff_ne]; omega
                go_wp2_with fail
                go_round
                case rel => exact ⟨k + 1, by omega, by go_num, HA2⟩
                case measure => simp [intOf]; omega
              · have b95 : (((s[k]'hkl).toNat : Int) == 95) = false := by rw [beq_eq_false_iff_ne]; omega
                go_wp2_with fail
                go_round
                case rel => exact ⟨k + 1, by omega, by go_num, HA2⟩
                case measure => simp [intOf]; omega
              · have b95 : (((s[k]'hkl).toNat : Int) == 95) = true := by rw [beq_iff_eq]; exact y1
                have y2 : ((s[k]'hkl).toNat : Int) ≤ 95 := by omega
                have y3 : 95 ≤ ((s[k]'hkl).toNat : Int) := by omega
                clear y1
                first | (have e97 : decide (97 ≤ ((s[k]'hkl).toNat : Int)) = true := decide_eq_true (by omega)) | (have e97 : decide (97 ≤ ((s[k]'hkl).toNat : Int)) = false := decide_eq_false (by omega))
                first | (have e122 : decide (((s[k]'hkl).toNat : Int) ≤ 122) = true := decide_eq_true (by omega)) | (have e122 : decide (((s[k]'hkl).toNat : Int) ≤ 122) = false := decide_eq_false (by omega))
                first | (have e65 : decide (65 ≤ ((s[k]'hkl).toNat : Int)) = true := decide_eq_true (by omega)) | (have e65 : decide (65 ≤ ((s[k]'hkl).toNat : Int)) = false := decide_eq_false (by omega))
                first | (have e90 : decide (((s[k]'hkl).toNat : Int) ≤ 90) = true := decide_eq_true (by omega)) | (have e90 : decide (((s[k]'hkl).toNat : Int) ≤ 90) = false := decide_eq_false (by omega))
                first | (have e48 : decide (48 ≤ ((s[k]'hkl).toNat : Int)) = true := decide_eq_true (by omega)) | (have e48 : decide (48 ≤ ((s[k]'hkl).toNat : Int)) = false := decide_eq_false (by omega))
                first | (have e57 : decide (((s[k]'hkl).toNat : Int) ≤ 57) = true := decide_eq_true (by omega)) | (have e57 : decide (((s[k]'hkl).toNat : Int) ≤ 57) = false := decide_eq_false (by omega))
                go_wp2_with fail
                go_round
                case rel => exact ⟨k + 1, by omega, by go_num, HA2⟩
                case measure => simp [intOf]; omega
          · obtain rfl : k = s.size := by omega
            have HR := Lib.hid (show isNm 1 s.data.toList = true from isNm_true (by rw [len_data]; omega) (by rw [len_data]; omega) HK.out (fun j h => HA.out j (by rw [← len_data]; exact h) (by rw [← len_data]; exact h)))
            clear HA HK
            go_wp2_with fail
            go_ret
            exact ⟨ret_bool HR.out.symm, rfl⟩
      · have z95 : (((s[0]'hp).toNat : Int) == 95) = true := by rw [beq_iff_eq]; exact z
        have z1 : ((s[0]'hp).toNat : Int) ≤ 95 := by omega
        clear z
        go_enter Tryz.func144, Tryz.ntmps144
        go_wp2_with (go_at_call 62; refine (HI.out _).mono ?_; rintro e w' ⟨rfl, rfl⟩)
        go_loop [9] (fun i => ∃ k : Nat, k ≤ s.size ∧ i = .int .i64 (k : Int) ∧ Hid (∀ (j : Nat) (h : j < s.size), j < k → kb s[j] ≠ 0)) (fun i => s.size - (intOf i).toNat)
        case atStart => exact ⟨0, by omega, rfl, fun j h h2 => by omega⟩
        case round =>
          obtain ⟨k, hk, rfl, HA⟩ := hrel
          by_cases hkl : k < s.size
          · by_cases hz : kindI ((s[k]'hkl).toNat : Int) = 0
            · have HR := Lib.hid (show isNm 1 s.data.toList = false from isNm_bad k (by rw [len_data]; exact hkl) hz)
              have hz' := kind0 hz
              have b95 : (((s[k]'hkl).toNat : Int) == 95) = false := by
                rw [beq_eq_false_iff_ne]; omega
              clear hz HA
              rcases hz' with y1 | ⟨y1, y2⟩ | ⟨y1, y2⟩ | y1 | y1
              all_goals first | (have y3 : ((s[k]'hkl).toNat : Int) ≤ 96 := (by omega); have y4 : 96 ≤ ((s[k]'hkl).toNat : Int) := (by omega); clear y1) | skip
              all_goals
                first | (have e97 : decide (97 ≤ ((s[k]'hkl).toNat : Int)) = true := decide_eq_true (by omega)) | (have e97 : decide (97 ≤ ((s[k]'hkl).toNat : Int)) = false := decide_eq_false (by omega))
                first | (have e122 : decide (((s[k]'hkl).toNat : Int) ≤ 122) = true := decide_eq_true (by omega)) | (have e122 : decide (((s[k]'hkl).toNat : Int) ≤ 122) = false := decide_eq_false (by omega))
                first | (have e65 : decide (65 ≤ ((s[k]'hkl).toNat : Int)) = true := decide_eq_true (by omega)) | (have e65 : decide (65 ≤ ((s[k]'hkl).toNat : Int)) = false := decide_eq_false (by omega))
                first | (have e90 : decide (((s[k]'hkl).toNat : Int) ≤ 90) = true := decide_eq_true (by omega)) | (have e90 : decide (((s[k]'hkl).toNat : Int) ≤ 90) = false := decide_eq_false (by omega))
                first | (have e48 : decide (48 ≤ ((s[k]'hkl).toNat : Int)) = true := decide_eq_true (by omega)) | (have e48 : decide (48 ≤ ((s[k]'hkl).toNat : Int)) = false := decide_eq_false (by omega))
                first | (have e57 : decide (((s[k]'hkl).toNat : Int) ≤ 57) = true := decide_eq_true (by omega)) | (have e57 : decide (((s[k]'hkl).toNat : Int) ≤ 57) = false := decide_eq_false (by omega))
                go_wp2_with fail
                go_ret
                exact ⟨ret_bool HR.out.symm, rfl⟩
            · have HA2 : Hid (∀ (j : Nat) (h : j < s.size), j < k + 1 → kb s[j] ≠ 0) := fun j h hj => by
                by_cases e : j = k
                · subst e; exact hz
                · exact HA.out j h (by omega)
              have hz' := kindn hz
              clear hz HA
              rcases hz' with ⟨y1, y2⟩ | ⟨y1, y2⟩ | ⟨y1, y2⟩ | y1
              · have b95 : (((s[k]'hkl).toNat : Int) == 95) = false := by rw [beq_eq_false_iff_ne]; omega
                go_wp2_with fail
                go_round
                case rel => exact ⟨k + 1, by omega, by go_num, HA2⟩
                case measure => simp [intOf]; omega
              · have b95 : (((s[k]'hkl).toNat : Int) == 95) = false := by rw [beq_eq_false_iff_ne]; omega
                go_wp2_with fail
                go_round
                case rel => exact ⟨k + 1, by omega, by go_num, HA2⟩
                case measure => simp [intOf]; omega
              · have b95 : (((s[k]'hkl).toNat : Int) == 95) = false := by rw [beq_eq_false_iff_ne]; omega
                go_wp2_with fail
                go_round
                case rel => exact ⟨k + 1, by omega, by go_num, HA2⟩
                case measure => simp [intOf]; omega
              · have b95 : (((s[k]'hkl).toNat : Int) == 95) = true := by rw [beq_iff_eq]; exact y1
                have y2 : ((s[k]'hkl).toNat : Int) ≤ 95 := by omega
                have y3 : 95 ≤ ((s[k]'hkl).toNat : Int) := by omega
                clear y1
                first | (have e97 : decide (97 ≤ ((s[k]'hkl).toNat : Int)) = true := decide_eq_true (by omega)) | (have e97 : decide (97 ≤ ((s[k]'hkl).toNat : Int)) = false := decide_eq_false (by omega))
                first | (have e122 : decide (((s[k]'hkl).toNat : Int) ≤ 122) = true := decide_eq_true (by omega)) | (have e122 : decide (((s[k]'hkl).toNat : Int) ≤ 122) = false := decide_eq_false (by omega))
                first | (have e65 : decide (65 ≤ ((s[k]'hkl).toNat : Int)) = true := decide_eq_true (by omega)) | (have e65 : decide (65 ≤ ((s[k]'hkl).toNat : Int)) = false := decide_eq_false (by omega))
                first | (have e90 : decide (((s[k]'hkl).toNat : Int) ≤ 90) = true := decide_eq_true (by omega)) | (have e90 : decide (((s[k]'hkl).toNat : Int) ≤ 90) = false := decide_eq_false (by omega))
                first | (have e48 : decide (48 ≤ ((s[k]'hkl).toNat : Int)) = true := decide_eq_true (by omega)) | (have e48 : decide (48 ≤ ((s[k]'hkl).toNat : Int)) = false := decide_eq_false (by omega))
                first | (have e57 : decide (((s[k]'hkl).toNat : Int) ≤ 57) = true := decide_eq_true (by omega)) | (have e57 : decide (((s[k]'hkl).toNat : Int) ≤ 57) = false := decide_eq_false (by omega))
                go_wp2_with fail
                go_round
                case rel => exact ⟨k + 1, by omega, by go_num, HA2⟩
                case measure => simp [intOf]; omega
          · obtain rfl : k = s.size := by omega
            have HR := Lib.hid (show isNm 1 s.data.toList = true from isNm_true (by rw [len_data]; omega) (by rw [len_data]; omega) HK.out (fun j h => HA.out j (by rw [← len_data]; exact h) (by rw [← len_data]; exact h)))
            clear HA HK
            go_wp2_with fail
            go_ret
            exact ⟨ret_bool HR.out.symm, rfl⟩
    · have HR := Lib.hid (show isNm 1 s.data.toList = false from isNm_first (by rw [len_data]; exact hp) hk)
      have hk' : ¬ ((97 ≤ ((s[0]'hp).toNat : Int) ∧ ((s[0]'hp).toNat : Int) ≤ 122) ∨ ((s[0]'hp).toNat : Int) = 95) := fun h => hk (kind1.2 h)
      have z95 : (((s[0]'hp).toNat : Int) == 95) = false := by rw [beq_eq_false_iff_ne]; intro h; exact hk' (.inr h)
      have z : ((s[0]'hp).toNat : Int) < 97 ∨ 122 < ((s[0]'hp).toNat : Int) := by omega
      clear hk hk'
      rcases z with z | z
      all_goals
        first | (have e97 : decide (97 ≤ ((s[0]'hp).toNat : Int)) = true := decide_eq_true (by omega)) | (have e97 : decide (97 ≤ ((s[0]'hp).toNat : Int)) = false := decide_eq_false (by omega))
        first | (have e122 : decide (((s[0]'hp).toNat : Int) ≤ 122) = true := decide_eq_true (by omega)) | (have e122 : decide (((s[0]'hp).toNat : Int) ≤ 122) = false := decide_eq_false (by omega))
        go_enter Tryz.func144, Tryz.ntmps144
        go_wp2_with (go_at_call 62; refine (HI.out _).mono ?_; rintro e w' ⟨rfl, rfl⟩)
        go_ret
        exact ⟨ret_bool HR.out.symm, rfl⟩
  · have HI : Hid (∀ w, Calls Tryz.prog 62 #[.int .i64 (s.size : Int), .int .i64 1, .int .i64 12] w fun e w' => e = .returned (.bool false) ∧ w = w') := fun w => (In_any _ _ _ w).mono fun e w' h => ⟨by rw [h.1]; apply ret_bool; simp; omega, h.2⟩
    have HR := Lib.hid (show isNm 1 s.data.toList = false by
      rcases Nat.lt_or_ge 12 s.size with h | h
      · exact isNm_long (by rw [len_data]; exact h)
      · have : s.data.toList = [] := List.eq_nil_of_length_eq_zero (by rw [len_data]; omega)
        rw [this]; rfl)
    clear h0
    go_enter Tryz.func144, Tryz.ntmps144
    go_wp2_with (go_at_call 62; refine (HI.out _).mono ?_; rintro e w' ⟨rfl, rfl⟩)
    go_ret
    exact ⟨ret_bool HR.out.symm, rfl⟩

set_option maxRecDepth 100000 in
set_option maxHeartbeats 4000000 in
theorem word_upper (s : ByteArray) (w : World) (hs : s.size ≤ maxLen) :
    Calls Tryz.prog 144 #[.string s, .int .u8 65, .int .u8 90, .bool false] w fun e w' => e = .returned (.bool (isNm 2 s.data.toList)) ∧ w = w' := by
  unfold maxLen at hs
  by_cases h0 : 1 ≤ s.size ∧ s.size ≤ 12
  · have HI : Hid (∀ w, Calls Tryz.prog 62 #[.int .i64 (s.size : Int), .int .i64 1, .int .i64 12] w fun e w' => e = .returned (.bool true) ∧ w = w') := fun w => (In_any _ _ _ w).mono fun e w' h => ⟨by rw [h.1]; apply ret_bool; simp; omega, h.2⟩
    have hp : 0 < s.size := by omega
    obtain ⟨h1, h2⟩ := h0
    by_cases hk : kindI ((s[0]'hp).toNat : Int) = 2
    · have HK := Lib.hid hk
      have hk' := kind2.1 hk
      clear hk
      obtain ⟨z1, z2⟩ := hk'
      go_enter Tryz.func144, Tryz.ntmps144
      go_wp2_with (go_at_call 62; refine (HI.out _).mono ?_; rintro e w' ⟨rfl, rfl⟩)
      go_loop [9] (fun i => ∃ k : Nat, k ≤ s.size ∧ i = .int .i64 (k : Int) ∧ Hid (∀ (j : Nat) (h : j < s.size), j < k → kb s[j] ≠ 0)) (fun i => s.size - (intOf i).toNat)
      case atStart => exact ⟨0, by omega, rfl, fun j h h2 => by omega⟩
      case round =>
        obtain ⟨k, hk, rfl, HA⟩ := hrel
        by_cases hkl : k < s.size
        · by_cases hz : kindI ((s[k]'hkl).toNat : Int) = 0
          · have HR := Lib.hid (show isNm 2 s.data.toList = false from isNm_bad k (by rw [len_data]; exact hkl) hz)
            have hz' := kind0 hz
            have b95 : (((s[k]'hkl).toNat : Int) == 95) = false := by
              rw [beq_eq_false_iff_ne]; omega
            clear hz HA
            rcases hz' with y1 | ⟨y1, y2⟩ | ⟨y1, y2⟩ | y1 | y1
            all_goals first | (have y3 : ((s[k]'hkl).toNat : Int) ≤ 96 := (by omega); have y4 : 96 ≤ ((s[k]'hkl).toNat : Int) := (by omega); clear y1) | skip
            all_goals
              first | (have e97 : decide (97 ≤ ((s[k]'hkl).toNat : Int)) = true := decide_eq_true (by omega)) | (have e97 : decide (97 ≤ ((s[k]'hkl).toNat : Int)) = false := decide_eq_false (by omega))
              first | (have e122 : decide (((s[k]'hkl).toNat : Int) ≤ 122) = true := decide_eq_true (by omega)) | (have e122 : decide (((s[k]'hkl).toNat : Int) ≤ 122) = false := decide_eq_false (by omega))
              first | (have e65 : decide (65 ≤ ((s[k]'hkl).toNat : Int)) = true := decide_eq_true (by omega)) | (have e65 : decide (65 ≤ ((s[k]'hkl).toNat : Int)) = false := decide_eq_false (by omega))
              first | (have e90 : decide (((s[k]'hkl).toNat : Int) ≤ 90) = true := decide_eq_true (by omega)) | (have e90 : decide (((s[k]'hkl).toNat : Int) ≤ 90) = false := decide_eq_false (by omega))
              first | (have e48 : decide (48 ≤ ((s[k]'hkl).toNat : Int)) = true := decide_eq_true (by omega)) | (have e48 : decide (48 ≤ ((s[k]'hkl).toNat : Int)) = false := decide_eq_false (by omega))
              first | (have e57 : decide (((s[k]'hkl).toNat : Int) ≤ 57) = true := decide_eq_true (by omega)) | (have e57 : decide (((s[k]'hkl).toNat : Int) ≤ 57) = false := decide_eq_false (by omega))
              go_wp2_with fail
              go_ret
              exact ⟨ret_bool HR.out.symm, rfl⟩
          · have HA2 : Hid (∀ (j : Nat) (h : j < s.size), j < k + 1 → kb s[j] ≠ 0) := fun j h hj => by
              by_cases e : j = k
              · subst e; exact hz
              · exact HA.out j h (by omega)
            have hz' := kindn hz
            clear hz HA
            rcases hz' with ⟨y1, y2⟩ | ⟨y1, y2⟩ | ⟨y1, y2⟩ | y1
            · have b95 : (((s[k]'hkl).toNat : Int) == 95) = false := by rw [beq_eq_false_iff_ne]; omega
              go_wp2_with fail
              go_round
              case rel => exact ⟨k + 1, by omega, by go_num, HA2⟩
              case measure => simp [intOf]; omega
            · have b95 : (((s[k]'hkl).toNat : Int) == 95) = false := by rw [beq_eq_false_iff_ne]; omega
              go_wp2_with fail
              go_round
              case rel => exact ⟨k + 1, by omega, by go_num, HA2⟩
              case measure => simp [intOf]; omega
            · have b95 : (((s[k]'hkl).toNat : Int) == 95) = false := by rw [beq_eq_false_iff_ne]; omega
              go_wp2_with fail
              go_round
              case rel => exact ⟨k + 1, by omega, by go_num, HA2⟩
              case measure => simp [intOf]; omega
            · have b95 : (((s[k]'hkl).toNat : Int) == 95) = true := by rw [beq_iff_eq]; exact y1
              have y2 : ((s[k]'hkl).toNat : Int) ≤ 95 := by omega
              have y3 : 95 ≤ ((s[k]'hkl).toNat : Int) := by omega
              clear y1
              first | (have e97 : decide (97 ≤ ((s[k]'hkl).toNat : Int)) = true := decide_eq_true (by omega)) | (have e97 : decide (97 ≤ ((s[k]'hkl).toNat : Int)) = false := decide_eq_false (by omega))
              first | (have e122 : decide (((s[k]'hkl).toNat : Int) ≤ 122) = true := decide_eq_true (by omega)) | (have e122 : decide (((s[k]'hkl).toNat : Int) ≤ 122) = false := decide_eq_false (by omega))
              first | (have e65 : decide (65 ≤ ((s[k]'hkl).toNat : Int)) = true := decide_eq_true (by omega)) | (have e65 : decide (65 ≤ ((s[k]'hkl).toNat : Int)) = false := decide_eq_false (by omega))
              first | (have e90 : decide (((s[k]'hkl).toNat : Int) ≤ 90) = true := decide_eq_true (by omega)) | (have e90 : decide (((s[k]'hkl).toNat : Int) ≤ 90) = false := decide_eq_false (by omega))
              first | (have e48 : decide (48 ≤ ((s[k]'hkl).toNat : Int)) = true := decide_eq_true (by omega)) | (have e48 : decide (48 ≤ ((s[k]'hkl).toNat : Int)) = false := decide_eq_false (by omega))
              first | (have e57 : decide (((s[k]'hkl).toNat : Int) ≤ 57) = true := decide_eq_true (by omega)) | (have e57 : decide (((s[k]'hkl).toNat : Int) ≤ 57) = false := decide_eq_false (by omega))
              go_wp2_with fail
              go_round
              case rel => exact ⟨k + 1, by omega, by go_num, HA2⟩
              case measure => simp [intOf]; omega
        · obtain rfl : k = s.size := by omega
          have HR := Lib.hid (show isNm 2 s.data.toList = true from isNm_true (by rw [len_data]; omega) (by rw [len_data]; omega) HK.out (fun j h => HA.out j (by rw [← len_data]; exact h) (by rw [← len_data]; exact h)))
          clear HA HK
          go_wp2_with fail
          go_ret
          exact ⟨ret_bool HR.out.symm, rfl⟩
    · have HR := Lib.hid (show isNm 2 s.data.toList = false from isNm_first (by rw [len_data]; exact hp) hk)
      have z : ((s[0]'hp).toNat : Int) < 65 ∨ 90 < ((s[0]'hp).toNat : Int) := by
        have hk' : ¬ (65 ≤ ((s[0]'hp).toNat : Int) ∧ ((s[0]'hp).toNat : Int) ≤ 90) := fun h => hk (kind2.2 h)
        omega
      clear hk
      rcases z with z | z
      all_goals
        first | (have e65 : decide (65 ≤ ((s[0]'hp).toNat : Int)) = true := decide_eq_true (by omega)) | (have e65 : decide (65 ≤ ((s[0]'hp).toNat : Int)) = false := decide_eq_false (by omega))
        first | (have e90 : decide (((s[0]'hp).toNat : Int) ≤ 90) = true := decide_eq_true (by omega)) | (have e90 : decide (((s[0]'hp).toNat : Int) ≤ 90) = false := decide_eq_false (by omega))
        go_enter Tryz.func144, Tryz.ntmps144
        go_wp2_with (go_at_call 62; refine (HI.out _).mono ?_; rintro e w' ⟨rfl, rfl⟩)
        go_ret
        exact ⟨ret_bool HR.out.symm, rfl⟩
  · have HI : Hid (∀ w, Calls Tryz.prog 62 #[.int .i64 (s.size : Int), .int .i64 1, .int .i64 12] w fun e w' => e = .returned (.bool false) ∧ w = w') := fun w => (In_any _ _ _ w).mono fun e w' h => ⟨by rw [h.1]; apply ret_bool; simp; omega, h.2⟩
    have HR := Lib.hid (show isNm 2 s.data.toList = false by
      rcases Nat.lt_or_ge 12 s.size with h | h
      · exact isNm_long (by rw [len_data]; exact h)
      · have : s.data.toList = [] := List.eq_nil_of_length_eq_zero (by rw [len_data]; omega)
        rw [this]; rfl)
    clear h0
    go_enter Tryz.func144, Tryz.ntmps144
    go_wp2_with (go_at_call 62; refine (HI.out _).mono ?_; rintro e w' ⟨rfl, rfl⟩)
    go_ret
    exact ⟨ret_bool HR.out.symm, rfl⟩

set_option maxHeartbeats 400000 in
theorem rIsUpper_any (s : ByteArray) (w : World) (hs : s.size ≤ maxLen) : Calls Tryz.prog 108 #[.string s] w fun e w' => e = .returned (.bool (isNm 2 s.data.toList)) ∧ w = w' := by
  have H := Lib.hid (fun w => word_upper s w hs)
  go_enter Tryz.func108, Tryz.ntmps108
  go_wp2_with (go_at_call 144; refine (H.out _).mono ?_; rintro e w' ⟨rfl, rfl⟩)
  go_ret
  exact ⟨rfl, rfl⟩

/-- whether a string is a keyword, by the reference's list -/
theorem HasKw (A : Option Addr) (c : Nat) (s : ByteArray) (w : World) (hL : StrsAt w A kwList) : Calls Tryz.prog 109 #[.slice A 25 c, .string s] w fun e w' => e = .returned (.bool (isKw s.data.toList)) ∧ w = w' :=
  Has_any A c kwList s w hL (by decide)
set_option maxHeartbeats 400000 in
theorem rIsVar_any (s : ByteArray) (w : World) (hs : s.size ≤ maxLen) : Calls Tryz.prog 107 #[.string s] w fun e w' => e = .returned (.bool (isV s.data.toList)) ∧ Below w.heap.size w w' := by
  unfold isV
  cases h1 : isNm 1 s.data.toList with
  | false =>
    have H1 : Hid (∀ w, Calls Tryz.prog 144 #[.string s, .int .u8 97, .int .u8 122, .bool true] w fun e w' => e = .returned (.bool false) ∧ w = w') := fun w => (word_lower s w hs).mono fun e w' h => ⟨by rw [h.1, h1], h.2⟩
    clear h1
    go_enter Tryz.func107, Tryz.ntmps107
    go_wp2_with (go_at_call 144; refine (H1.out _).mono ?_; rintro e w' ⟨rfl, rfl⟩)
    go_ret
    exact ⟨ret_bool rfl, Below.refl _ _⟩
  | true =>
    have H1 : Hid (∀ w, Calls Tryz.prog 144 #[.string s, .int .u8 97, .int .u8 122, .bool true] w fun e w' => e = .returned (.bool true) ∧ w = w') := fun w => (word_lower s w hs).mono fun e w' h => ⟨by rw [h.1, h1], h.2⟩
    clear h1
    go_enter Tryz.func107, Tryz.ntmps107
    go_wp2_with (first | (go_at_call 144; refine (H1.out _).mono ?_; rintro e w' ⟨rfl, rfl⟩) | (go_at_call 145; refine (Keywords_any _).mono ?_; rintro e w2 ⟨A, c, rfl, hL, hb⟩; have HL := Lib.hid hL; have HB := Lib.hid hb; clear hL hb) | (go_at_call 109; refine (HasKw _ _ _ _ HL.out).mono ?_; rintro e w' ⟨rfl, rfl⟩))
    go_ret
    exact ⟨ret_bool (by simp), HB.out⟩
end Go.Proofs.YtbfojibhdadglaaGreatDoor
/- The reference's classes of names, and lists of variable names. -/
namespace Go.Proofs.YtbfojibhdadglaaGreatDoor
open Go.RowKit

/-- the reference's classes: 3 are the primitives -/
def rCls (n : Int) (s : List UInt8) : Bool := if n = 1 then isV s else if n = 2 then isNm 2 s else if n = 3 then [[43], [45], [42], [60], [61, 61]].contains s else s == []
set_option maxRecDepth 100000 in
set_option maxHeartbeats 1000000 in
theorem class_any (s : List UInt8) (n : Int) (w : World) (hs : s.length ≤ maxLen) : Calls Tryz.prog 63 #[.string (strB s), .int .i64 n] w fun e w' => e = .returned (.bool (rCls n s)) ∧ Below w.heap.size w w' := by
  obtain ⟨r, hr⟩ : ∃ r, r = rCls n s := ⟨_, rfl⟩
  rw [← hr]
  unfold rCls at hr
  have hsz : (strB s).size ≤ maxLen := by rw [strB_size]; exact hs
  have HR := Lib.hid hr
  clear hr
  by_cases h1 : n = 1
  · have HV := Lib.hid (rIsVar_any (strB s) w hsz)
    have HR2 : Hid (r = isV s) := Lib.hid (by rw [HR.out, if_pos h1])
    subst h1
    go_enter Tryz.func63, Tryz.ntmps63
    go_wp2_with fail
    refine HV.out.mono ?_
    rintro e w' ⟨rfl, hb⟩
    have HB := Lib.hid hb
    clear hb
    go_wp2_with fail
    go_ret
    exact ⟨by rw [HR2.out]; rfl, HB.out⟩
  · have q1 : (n == 1) = false := beq_eq_false_iff_ne.2 h1
    by_cases h2 : n = 2
    · have HV := Lib.hid (rIsUpper_any (strB s) w hsz)
      have HR2 : Hid (r = isNm 2 s) := Lib.hid (by rw [HR.out, if_neg h1, if_pos h2])
      subst h2
      clear h1 q1
      go_enter Tryz.func63, Tryz.ntmps63
      go_wp2_with fail
      refine HV.out.mono ?_
      rintro e w' ⟨rfl, rfl⟩
      go_wp2_with fail
      go_ret
      exact ⟨by rw [HR2.out]; rfl, Below.refl _ _⟩
    · have q2 : (n == 2) = false := beq_eq_false_iff_ne.2 h2
      by_cases h3 : n = 3
      · have HR2 : Hid (r = [[43], [45], [42], [60], [61, 61]].contains s) := Lib.hid (by rw [HR.out, if_neg h1, if_neg h2, if_pos h3])
        have H := Lib.hid (strs_lit w [[43], [45], [42], [60], [61, 61]] 9)
        have HV := Lib.hid (fun w' A c hL => Has_any A c [[43], [45], [42], [60], [61, 61]] (strB s) w' hL (by decide))
        obtain ⟨q, hq⟩ : ∃ q, q = ([[43], [45], [42], [60], [61, 61]] : List (List UInt8)).contains s := ⟨_, rfl⟩
        have HV2 : Hid (∀ w' A c, StrsAt w' A [[43], [45], [42], [60], [61, 61]] → Calls Tryz.prog 109 #[.slice A 5 c, .string (strB s)] w' fun e w2 => e = .returned (.bool q) ∧ w' = w2) := Lib.hid (fun w' A c hL => by rw [hq]; exact HV.out w' A c hL)
        rw [← hq] at HR2
        subst h3
        clear h1 h2 q1 q2 HV hq
        go_enter Tryz.func63, Tryz.ntmps63
        go_wp2_with fail
        refine (HV2.out _ _ _ H.out).mono ?_
        rintro e w' ⟨rfl, rfl⟩
        go_wp2_with fail
        go_ret
        exact ⟨by rw [HR2.out]; rfl, (Below.refl _ _).alloc (Nat.le_refl _) _⟩
      · have q3 : (n == 3) = false := beq_eq_false_iff_ne.2 h3
        have HR2 : Hid (r = (s == [])) := Lib.hid (by rw [HR.out, if_neg h1, if_neg h2, if_neg h3])
        obtain ⟨q, hq⟩ : ∃ q, q = (s == []) := ⟨_, rfl⟩
        have hc : ((strB s).toList == []) = q := by rw [ByteArray.toList_eq, data_strB, hq]
        rw [← hq] at HR2
        clear hq h1 h2 h3
        go_enter Tryz.func63, Tryz.ntmps63
        go_wp2_with fail
        go_ret
        exact ⟨by rw [HR2.out]; rfl, Below.refl _ _⟩
end Go.Proofs.YtbfojibhdadglaaGreatDoor
/- The reference's typeLeft: whether a type is too large. -/
namespace Go.Proofs.YtbfojibhdadglaaGreatDoor
open Go.RowKit

mutual
/-- how many more nodes there may be; below 0: there are more -/
def rtlP : Ty → Int → Int → Int
  | .mk _ _ _ l ls _, nodes, d => if d < 1 ∨ 24 < ls.length then -1 else rtlL l (nodes - 1) (d - 1)
def rtlL : List Ty → Int → Int → Int
  | [], nodes, _ => nodes
  | e :: r, nodes, d => if nodes < 0 then nodes else rtlL r (rtlP e nodes d) d
end
theorem rtlL_neg (l : List Ty) (nodes d : Int) (h : nodes < 0) : rtlL l nodes d = nodes := by
  cases l with
  | nil => rfl
  | cons e r => rw [rtlL, if_pos h]
mutual
theorem rtlP_le : ∀ (e : Ty) (nodes d : Int), 0 ≤ nodes → rtlP e nodes d ≤ nodes ∧ -1 ≤ rtlP e nodes d
  | .mk k n s l ls tl, nodes, d, h => by
    rw [rtlP]
    split
    · omega
    · have h1 := rtlL_le l (nodes - 1) (d - 1) (by omega)
      omega
theorem rtlL_le : ∀ (l : List Ty) (nodes d : Int), -1 ≤ nodes → rtlL l nodes d ≤ nodes ∧ -1 ≤ rtlL l nodes d
  | [], nodes, d, h => by rw [rtlL]; omega
  | e :: r, nodes, d, h => by
    rw [rtlL]
    split
    · omega
    · have h1 := rtlP_le e nodes d (by omega)
      have h2 := rtlL_le r (rtlP e nodes d) d h1.2
      omega
end
theorem rtlL_snoc : ∀ (l : List Ty) (e : Ty) (nodes d : Int), rtlL (l ++ [e]) nodes d = if rtlL l nodes d < 0 then rtlL l nodes d else rtlP e (rtlL l nodes d) d
  | [], e, nodes, d => by simp only [List.nil_append, rtlL]; rfl
  | x :: r, e, nodes, d => by
    rw [List.cons_append, rtlL, rtlL]
    by_cases h : nodes < 0
    · simp only [if_pos h]
    · simp only [if_neg h]
      exact rtlL_snoc r e _ d
theorem rtlL_app : ∀ (a b : List Ty) (nodes d : Int), rtlL (a ++ b) nodes d = rtlL b (rtlL a nodes d) d
  | [], b, nodes, d => by rw [List.nil_append, rtlL]
  | x :: r, b, nodes, d => by
    rw [List.cons_append, rtlL, rtlL]
    by_cases h : nodes < 0
    · simp only [if_pos h]; rw [rtlL_neg _ _ _ h]
    · simp only [if_neg h]; exact rtlL_app r b _ d
theorem rtlL_end {l : List Ty} {j : Nat} {nodes d N : Int} (hN : N = rtlL (l.take j) nodes d) (h : N < 0 ∨ l.length ≤ j) : N = rtlL l nodes d := by
  rcases h with h | h
  · have := rtlL_app (l.take j) (l.drop j) nodes d
    rw [List.take_append_drop, ← hN, rtlL_neg _ _ _ h] at this
    exact this.symm
  · rw [hN, List.take_of_length_le h]
theorem rtlL_step {l : List Ty} {j : Nat} {nodes d N : Int} {e : Ty} (hN : N = rtlL (l.take j) nodes d) (h : 0 ≤ N) (he : l[j]? = some e) : rtlP e N d = rtlL (l.take (j + 1)) nodes d := by
  have hj := (List.getElem?_eq_some_iff.1 he).1
  rw [List.take_succ_eq_append_getElem hj, rtlL_snoc, ← hN, if_neg (by omega)]
  rw [List.getElem?_eq_getElem hj, Option.some.injEq] at he
  rw [he]

/-- what the reference's typeLeft answers for a type -/
def RtlSays (e : Ty) : Prop := ∀ (cs : List Value) (nodes d : Int) (w : World), RepT (fun _ => True) w e cs → 0 ≤ nodes → nodes ≤ 3000 → 0 ≤ d → d ≤ 200 →
  Calls Tryz.prog 20 #[.agg cs.toArray, .int .i64 nodes, .int .i64 d] w fun e' w' => e' = .returned (.int .i64 (rtlP e nodes d)) ∧ Below w.heap.size w w'
set_option maxRecDepth 100000 in
set_option maxHeartbeats 4000000 in
theorem rtl_any : ∀ e, RtlSays e := by
  refine Ty.ind fun e ih cs nodes d w h1 n1 n2 d1 d2 => ?_
  cases e with
  | mk k n s l ls tl =>
  have h1' := h1.tight
  obtain ⟨Al, cl, Ar, cr, rfl, hf, hls, hl⟩ := h1'
  have hPl : TParts w.heap.size w Al l := tparts_of hl
  obtain ⟨S, hS⟩ : ∃ S, S = strB s := ⟨_, rfl⟩
  obtain ⟨nl, hnl⟩ : ∃ q, q = l.length := ⟨_, rfl⟩
  obtain ⟨nr, hnr⟩ : ∃ q, q = ls.length := ⟨_, rfl⟩
  have hl2 : (nl : Int) ≤ 9223372036854775807 := by have := hf.hcl; unfold maxLen at this; omega
  have hr2 : (nr : Int) ≤ 9223372036854775807 := by have := hf.hcr; unfold maxLen at this; omega
  obtain ⟨R, hR⟩ : ∃ R, R = rtlP (.mk k n s l ls tl) nodes d := ⟨_, rfl⟩
  show Calls Tryz.prog 20 #[.agg #[.int .i64 k, .int .i64 n, .string (strB s), .slice Al l.length cl, .slice Ar ls.length cr, .int .i64 tl], .int .i64 nodes, .int .i64 d] w fun e' w' => e' = .returned (.int .i64 (rtlP (.mk k n s l ls tl) nodes d)) ∧ Below w.heap.size w w'
  rw [← hR, ← hS, ← hnl, ← hnr]
  rw [rtlP] at hR
  have HNl := Lib.hid hnl
  have HNr := Lib.hid hnr
  have HPl := Lib.hid hPl
  have HIH := Lib.hid ih
  obtain ⟨W1, hW1⟩ : ∃ W1, w.alloc (.cells #[.int .i64 k, .int .i64 n, .string S, .slice Al nl cl, .slice Ar nr cr, .int .i64 tl] 28) = W1 := ⟨_, rfl⟩
  have HB1 : Hid (Below w.heap.size w W1) := Lib.hid (by rw [← hW1]; exact (Below.refl _ _).alloc (Nat.le_refl _) _)
  have HE1 : Hid (TyBx W1 w.heap.size (.int .i64 k) (.int .i64 n) (.string S) (.slice Al nl cl) (.slice Ar nr cr) (.int .i64 tl)) := Lib.hid (by rw [← hW1]; exact TyBx.new w _ _ _ _ _ _)
  have hzw : w.heap.size < W1.heap.size := by rw [← hW1]; simp
  obtain ⟨a0, a1, a2, a3, a4, a5⟩ := HE1.out.c
  clear h1 hf hls hl hPl ih hS
  by_cases c1 : d < 1
  · have HR : Hid (R = -1) := Lib.hid (by rw [hR]; exact if_pos (.inl c1))
    have b1 : decide (d < 1) = true := decide_eq_true c1
    clear hR hnl hnr
    go_enter Tryz.func20, Tryz.ntmps20
    go_wp2_with fail
    go_ret
    exact ⟨by rw [HR.out]; rfl, HB1.out⟩
  have b1 : decide (d < 1) = false := decide_eq_false c1
  by_cases c2 : 24 < nr
  · have HR : Hid (R = -1) := Lib.hid (by rw [hR]; exact if_pos (.inr (by rw [← HNr.out]; exact c2)))
    have b2 : decide ((24 : Int) < (nr : Int)) = true := decide_eq_true (by omega)
    clear hR hnl hnr c1
    go_enter Tryz.func20, Tryz.ntmps20
    go_wp2_with fail
    go_ret
    exact ⟨by rw [HR.out]; rfl, HB1.out⟩
  have b2 : decide ((24 : Int) < (nr : Int)) = false := decide_eq_false (by omega)
  have q1 : 1 ≤ d := by omega
  have HR3 : Hid (R = rtlL l (nodes - 1) (d - 1)) := Lib.hid (by
    rw [hR]
    refine if_neg ?_
    rintro (g | g)
    · exact c1 g
    · exact c2 (by rw [HNr.out]; exact g))
  clear hR hnl hnr c1 c2
  go_enter Tryz.func20, Tryz.ntmps20
  go_wp2_with fail
  clear hW1
  go_loopw [1, 7] (fun v i wr => ∃ (j : Nat) (N : Int), j ≤ nl ∧ -1 ≤ N ∧ N ≤ 2999 ∧ i = .int .i64 (j : Int) ∧ v = .int .i64 N ∧ Hid (N = rtlL (l.take j) (nodes - 1) (d - 1)) ∧ Hid (Below W1.heap.size W1 wr)) (fun v i _ => nl - (intOf i).toNat)
  case atStart => exact ⟨0, nodes - 1, by omega, by omega, by omega, rfl, rfl, Lib.hid (by rw [List.take_zero, rtlL]), Lib.hid (Below.refl _ _)⟩
  case round =>
    clear a0 a1 a2 a3 a4 a5
    obtain ⟨j, N, hj, hN1, hN2, rfl, rfl, HNJ, HBw⟩ := hrel
    have HB := Lib.hid (HB1.out.trans (HBw.out.mono HB1.out.size))
    have HEr : Hid (TyBx wr w.heap.size (.int .i64 k) (.int .i64 n) (.string S) (.slice Al nl cl) (.slice Ar nr cr) (.int .i64 tl)) := Lib.hid (HE1.out.kept (grown_below HBw.out none) (by simp))
    obtain ⟨a0, a1, a2, a3, a4, a5⟩ := HEr.out.c
    have i0 : (0 : Int) ≤ (j : Int) := by omega
    by_cases hjl : j < nl
    · have i1 : (j : Int) < (nl : Int) := by omega
      have g1 : decide (j < nl) = true := decide_eq_true hjl
      by_cases h0 : 0 ≤ N
      · have g2 : decide (0 ≤ N) = true := decide_eq_true h0
        have hjl' : j < l.length := by rw [← HNl.out]; exact hjl
        obtain ⟨x, hx⟩ : ∃ x, x = l[j] := ⟨_, rfl⟩
        have hxl : l[j]? = some x := by rw [hx]; exact List.getElem?_eq_getElem hjl'
        obtain ⟨b, off, rfl⟩ := HPl.out.addr (by omega)
        obtain ⟨hbx, k1, m1, s1, X0, p0, c0, X1, p1, c1, t1, hcx⟩ := HPl.out.at hxl
        obtain ⟨f0, f1, f2, f3, f4, f5⟩ := hcx.up hbx HB.out
        have hle := rtlP_le x N (d - 1) h0
        obtain ⟨N', hN'⟩ : ∃ N', N' = rtlP x N (d - 1) := ⟨_, rfl⟩
        have HNN : Hid (N' = rtlL (l.take (j + 1)) (nodes - 1) (d - 1)) := Lib.hid (by rw [hN']; exact rtlL_step HNJ.out h0 hxl)
        have HI : Hid (Calls Tryz.prog 20 #[.agg #[.int .i64 k1, .int .i64 m1, .string s1, .slice X0 p0 c0, .slice X1 p1 c1, .int .i64 t1], .int .i64 N, .int .i64 (d - 1)] wr fun e' w' => e' = .returned (.int .i64 N') ∧ Below wr.heap.size wr w') := Lib.hid (by
          rw [hN']
          exact HIH.out x (List.mem_of_getElem? hxl) _ N (d - 1) wr ((hcx.rep.weaken (Q := fun _ => True) (fun _ _ => trivial)).keep (Same.of_below HB.out)) h0 (by omega) (by omega) (by omega))
        rw [← hN'] at hle
        obtain ⟨hle1, hle2⟩ := hle
        clear hx hxl hcx hN' hbx
        go_wp2_with fail
        refine HI.out.mono ?_
        rintro e w' ⟨rfl, hb⟩
        have HB2 := Lib.hid (HBw.out.trans (hb.mono HBw.out.size))
        clear hb
        go_wp2_with fail
        go_roundw
        case rel => exact ⟨j + 1, N', by omega, by omega, by omega, by go_num, rfl, HNN, HB2⟩
        case measure => simp [intOf]; omega
      · have g2 : decide (0 ≤ N) = false := decide_eq_false h0
        have HRn : Hid (R = N) := Lib.hid (by rw [HR3.out]; exact (rtlL_end HNJ.out (.inl (by omega))).symm)
        go_wp2_with fail
        go_ret
        exact ⟨by rw [HRn.out]; rfl, HB.out⟩
    · have g1 : decide (j < nl) = false := decide_eq_false hjl
      have HRn : Hid (R = N) := Lib.hid (by rw [HR3.out]; exact (rtlL_end HNJ.out (.inr (by rw [← HNl.out]; omega))).symm)
      go_wp2_with fail
      go_ret
      exact ⟨by rw [HRn.out]; rfl, HB.out⟩
end Go.Proofs.YtbfojibhdadglaaGreatDoor
/- The first error of a row, and the reference's row. -/
namespace Go.Proofs.YtbfojibhdadglaaGreatDoor
open Go.RowKit

/-- a label's first error -/
def labErr (x : Txt × Int) : Int := if isNm 2 x.1 = false then 4 else if (decide (0 ≤ x.2) && decide (x.2 ≤ 999999999)) = false then 1 else 0
/-- the first error of labels -/
def labsErr : List (Txt × Int) → Int
  | [] => 0
  | x :: r => if labErr x = 0 then labsErr r else labErr x
def rowErr (ls : List (Txt × Int)) (tl : Int) : Int := if labsErr ls = 0 then (if (decide (-1 ≤ tl) && decide (tl ≤ 999999999)) = false then 1 else 0) else labsErr ls
theorem labsErr_snoc : ∀ (l : List (Txt × Int)) (x : Txt × Int), labsErr l = 0 → labsErr (l ++ [x]) = labErr x
  | [], x, _ => by
    rw [List.nil_append, labsErr, labsErr]
    by_cases h : labErr x = 0
    · rw [if_pos h, h]
    · rw [if_neg h]
  | y :: r, x, h => by
    rw [labsErr] at h
    by_cases h0 : labErr y = 0
    · rw [if_pos h0] at h
      rw [List.cons_append, labsErr, if_pos h0]
      exact labsErr_snoc r x h
    · rw [if_neg h0] at h
      exact absurd h h0
theorem labsErr_at : ∀ (l : List (Txt × Int)) (k : Nat) (x : Txt × Int), labsErr (l.take k) = 0 → l[k]? = some x → labErr x ≠ 0 → labsErr l = labErr x
  | [], k, x, _, h, _ => by simp at h
  | y :: r, 0, x, _, h, hx => by
    simp only [List.getElem?_cons_zero, Option.some.injEq] at h
    subst h
    rw [labsErr, if_neg hx]
  | y :: r, k + 1, x, h0, h, hx => by
    simp only [List.getElem?_cons_succ] at h
    rw [List.take_succ_cons, labsErr] at h0
    by_cases hy : labErr y = 0
    · rw [if_pos hy] at h0
      rw [labsErr, if_pos hy]
      exact labsErr_at r k x h0 h hx
    · rw [if_neg hy] at h0
      exact absurd h0 hy
set_option maxRecDepth 100000 in
set_option maxHeartbeats 4000000 in
theorem rRow_any (P : Nat → Prop) (A : Option Addr) (c : Nat) (L : List (Txt × Int)) (tl : Int) (w : World) (hL : LabsAt P w A L) (hl : L.length ≤ maxLen) (hs : ∀ x ∈ L, okS x.1) :
    Calls Tryz.prog 65 #[.agg #[.slice A L.length c, .int .i64 tl]] w fun e w' => e = .returned (.int .i64 (rowErr L tl)) ∧ Below w.heap.size w w' := by
  obtain ⟨n, hn⟩ : ∃ n, n = L.length := ⟨_, rfl⟩
  have hl1 : (n : Int) ≤ 9223372036854775807 := by unfold maxLen at hl; omega
  have HL := Lib.hid hL
  have HN := Lib.hid hn
  have HS := Lib.hid hs
  obtain ⟨r, hr⟩ : ∃ r, r = rowErr L tl := ⟨_, rfl⟩
  have HR := Lib.hid hr
  rw [← hr, ← hn]
  obtain ⟨W1, hW1⟩ : ∃ W1, w.alloc (.cells #[.slice A n c, .int .i64 tl] 26) = W1 := ⟨_, rfl⟩
  have HB1 : Hid (Below w.heap.size w W1) := Lib.hid (by rw [← hW1]; exact (Below.refl _ _).alloc (Nat.le_refl _) _)
  have hx : W1.heap[w.heap.size]? = some (.cells #[.slice A n c, .int .i64 tl] 26 (0, 0)) := by rw [← hW1]; exact heap_alloc_new w _
  have a0 := cell_of_row W1 w.heap.size 0 _ _ (0, 0) hx
  have a1 := cell_of_row W1 w.heap.size 1 _ _ (0, 0) hx
  simp only [List.getElem?_toArray, List.getElem?_cons_zero, List.getElem?_cons_succ] at a0 a1
  clear hL hn hl hs hr hx
  go_enter Tryz.func65, Tryz.ntmps65
  go_wp2_with fail
  clear hW1
  go_loop [3] (fun i => ∃ k : Nat, k ≤ n ∧ i = .int .i64 (k : Int) ∧ Hid (labsErr (L.take k) = 0)) (fun i => n - (intOf i).toNat)
  case atStart => exact ⟨0, by omega, rfl, Lib.hid rfl⟩
  case round =>
    obtain ⟨k, hk, rfl, HA⟩ := hrel
    have i0 : (0 : Int) ≤ (k : Int) := by omega
    by_cases hkl : k < n
    · have hk1 : k < L.length := by rw [← HN.out]; exact hkl
      have i1 : (k : Int) < (n : Int) := by omega
      obtain ⟨x, hx⟩ : ∃ x, x = L[k] := ⟨_, rfl⟩
      have hxl : L[k]? = some x := by rw [hx]; exact List.getElem?_eq_getElem hk1
      have HXs : Hid (x.1.length ≤ maxLen) := Lib.hid (HS.out x (List.mem_of_getElem? hxl))
      obtain ⟨b, off, rfl, _, hlt, hc⟩ := HL.out (List.ne_nil_of_length_pos (by omega))
      have d1 := (Below.cell (p := ⟨b, _, none⟩) HB1.out hlt).trans (hc k x hxl).1
      have d2 := (Below.cell (p := ⟨b, _, none⟩) HB1.out hlt).trans (hc k x hxl).2
      have HXl := Lib.hid hxl
      have HTk : Hid (labErr x = 0 → labsErr (L.take (k + 1)) = 0) := Lib.hid (fun h => by rw [take_succ_of hk1, labsErr_snoc _ _ HA.out, ← hx, h])
      have HBad : Hid (labErr x ≠ 0 → r = labErr x) := Lib.hid (fun h => by
        have h1 := labsErr_at L k x HA.out HXl.out h
        rw [HR.out, rowErr, if_neg (by rw [h1]; exact h), h1])
      obtain ⟨X, hX⟩ : ∃ X, X = strB x.1 := ⟨_, rfl⟩
      obtain ⟨N, hN⟩ : ∃ N, N = x.2 := ⟨_, rfl⟩
      obtain ⟨U, hU⟩ : ∃ U, U = isNm 2 x.1 := ⟨_, rfl⟩
      obtain ⟨V, hV⟩ : ∃ V, V = (decide (0 ≤ x.2) && decide (x.2 ≤ 999999999)) := ⟨_, rfl⟩
      have HU : Hid (∀ wx, Calls Tryz.prog 108 #[.string X] wx fun e w' => e = .returned (.bool U) ∧ wx = w') := Lib.hid (fun wx => by rw [hX, hU]; exact rIsUpper_any (strB x.1) wx (by rw [strB_size]; exact HXs.out))
      have HV : Hid (∀ wx, Calls Tryz.prog 62 #[.int .i64 N, .int .i64 0, .int .i64 999999999] wx fun e w' => e = .returned (.bool V) ∧ wx = w') := Lib.hid (fun wx => by rw [hN, hV]; exact In_any x.2 0 999999999 wx)
      have HEr : Hid (labErr x = if U = false then 4 else if V = false then 1 else 0) := Lib.hid (by rw [hU, hV]; rfl)
      rw [← hX] at d1
      rw [← hN] at d2
      clear hx hxl hX hN hU hV hc hlt HA
      cases U with
      | false =>
        have HRf : Hid (r = 4) := Lib.hid (by
          have e4 : labErr x = 4 := by rw [HEr.out]; rfl
          rw [HBad.out (by rw [e4]; decide), e4])
        clear HEr HBad HTk
        go_wp2_with fail
        refine (HU.out _).mono ?_
        rintro e w' ⟨rfl, rfl⟩
        go_wp2_with fail
        go_ret
        exact ⟨by rw [HRf.out]; rfl, HB1.out⟩
      | true =>
        cases V with
        | false =>
          have HRf : Hid (r = 1) := Lib.hid (by
            have e4 : labErr x = 1 := by rw [HEr.out]; rfl
            rw [HBad.out (by rw [e4]; decide), e4])
          clear HEr HBad HTk
          go_wp2_with fail
          refine (HU.out _).mono ?_
          rintro e w' ⟨rfl, rfl⟩
          go_wp2_with fail
          refine (HV.out _).mono ?_
          rintro e w' ⟨rfl, rfl⟩
          go_wp2_with fail
          go_ret
          exact ⟨by rw [HRf.out]; rfl, HB1.out⟩
        | true =>
          have HA2 := Lib.hid (HTk.out (by rw [HEr.out]; rfl))
          clear HEr HBad HTk
          go_wp2_with fail
          refine (HU.out _).mono ?_
          rintro e w' ⟨rfl, rfl⟩
          go_wp2_with fail
          refine (HV.out _).mono ?_
          rintro e w' ⟨rfl, rfl⟩
          go_wp2_with fail
          go_round
          case rel => exact ⟨k + 1, by omega, by go_num, HA2⟩
          case measure => simp [intOf]; omega
    · obtain rfl : k = n := by omega
      have HA2 : Hid (labsErr L = 0) := Lib.hid (by have h := HA.out; rwa [List.take_of_length_le (by rw [← HN.out]; exact Nat.le_refl _)] at h)
      obtain ⟨V, hV⟩ : ∃ V, V = (decide (-1 ≤ tl) && decide (tl ≤ 999999999)) := ⟨_, rfl⟩
      have HV : Hid (∀ wx, Calls Tryz.prog 62 #[.int .i64 tl, .int .i64 (-1), .int .i64 999999999] wx fun e w' => e = .returned (.bool V) ∧ wx = w') := Lib.hid (fun wx => by rw [hV]; exact In_any tl (-1) 999999999 wx)
      have HRr : Hid (r = if V = false then 1 else 0) := Lib.hid (by rw [HR.out, rowErr, if_pos HA2.out, hV])
      clear HA hV
      cases V with
      | false =>
        have HRf : Hid (r = 1) := Lib.hid (by rw [HRr.out]; rfl)
        go_wp2_with fail
        refine (HV.out _).mono ?_
        rintro e w' ⟨rfl, rfl⟩
        go_wp2_with fail
        go_ret
        exact ⟨by rw [HRf.out]; rfl, HB1.out⟩
      | true =>
        have HRf : Hid (r = 0) := Lib.hid (by rw [HRr.out]; rfl)
        go_wp2_with fail
        refine (HV.out _).mono ?_
        rintro e w' ⟨rfl, rfl⟩
        go_wp2_with fail
        go_ret
        exact ⟨by rw [HRf.out]; rfl, HB1.out⟩
end Go.Proofs.YtbfojibhdadglaaGreatDoor
/- A type's first error, plainly; the reference's built-in names. -/
namespace Go.Proofs.YtbfojibhdadglaaGreatDoor
open Go.RowKit

/-- the names of the built-in types -/
def biT : List Txt := [[73, 110, 116], [66, 111, 111, 108], [85, 110, 105, 116]]
/-- the class of the name that a kind of types uses -/
def tyCls (k : Int) : Int := if k = 1 then 1 else if k = 6 then 2 else 0
/-- the first error of a type's node, without its parts: nl parts -/
def tyNode (k n : Int) (s : Txt) (nl : Nat) (ls : List (Txt × Int)) (tl : Int) : Int :=
  if (decide (0 ≤ k) && decide (k ≤ 6)) = false ∨ (decide (0 ≤ n) && decide (n ≤ 999999999)) = false ∨ (k ≠ 0 ∧ n ≠ 0) then 1
  else if rCls (tyCls k) s = false ∨ (k = 6 ∧ biT.contains s = true) then 4
  else if (k = 5 ∧ nl ≠ 2) ∨ (k = 6 ∧ 4 < nl) ∨ (k ≠ 5 ∧ k ≠ 6 ∧ 0 < nl) then 7
  else if k ≠ 5 ∧ (0 < ls.length ∨ tl ≠ 0) then 1
  else if k = 5 then rowErr ls tl else 0
mutual
/-- a type's first error, node by node -/
def tyErr : Ty → Int
  | .mk k n s l ls tl => if tyNode k n s l.length ls tl = 0 then tysErr l else tyNode k n s l.length ls tl
def tysErr : List Ty → Int
  | [] => 0
  | x :: r => if tyErr x = 0 then tysErr r else tyErr x
end
theorem tysErr_snoc : ∀ (l : List Ty) (x : Ty), tysErr l = 0 → tysErr (l ++ [x]) = tyErr x
  | [], x, _ => by
    rw [List.nil_append, tysErr, tysErr]
    by_cases h : tyErr x = 0
    · rw [if_pos h, h]
    · rw [if_neg h]
  | y :: r, x, h => by
    rw [tysErr] at h
    by_cases h0 : tyErr y = 0
    · rw [if_pos h0] at h
      rw [List.cons_append, tysErr, if_pos h0]
      exact tysErr_snoc r x h
    · rw [if_neg h0] at h
      exact absurd h h0
theorem tysErr_at : ∀ (l : List Ty) (k : Nat) (x : Ty), tysErr (l.take k) = 0 → l[k]? = some x → tyErr x ≠ 0 → tysErr l = tyErr x
  | [], k, x, _, h, _ => by simp at h
  | y :: r, 0, x, _, h, hx => by
    simp only [List.getElem?_cons_zero, Option.some.injEq] at h
    subst h
    rw [tysErr, if_neg hx]
  | y :: r, k + 1, x, h0, h, hx => by
    simp only [List.getElem?_cons_succ] at h
    rw [List.take_succ_cons, tysErr] at h0
    by_cases hy : tyErr y = 0
    · rw [if_pos hy] at h0
      rw [tysErr, if_pos hy]
      exact tysErr_at r k x h0 h hx
    · rw [if_neg hy] at h0
      exact absurd h0 hy
set_option maxRecDepth 100000 in
theorem builtin_any (s : List UInt8) (w : World) : Calls Tryz.prog 64 #[.string (strB s)] w fun e w' => e = .returned (.bool (biT.contains s)) ∧ Below w.heap.size w w' := by
  have H := Lib.hid (strs_lit w [[73, 110, 116], [66, 111, 111, 108], [85, 110, 105, 116]] 9)
  have HV := Lib.hid (fun w' A c hL => Has_any A c [[73, 110, 116], [66, 111, 111, 108], [85, 110, 105, 116]] (strB s) w' hL (by decide))
  obtain ⟨q, hq⟩ : ∃ q, q = biT.contains s := ⟨_, rfl⟩
  have HV2 : Hid (∀ w' A c, StrsAt w' A [[73, 110, 116], [66, 111, 111, 108], [85, 110, 105, 116]] → Calls Tryz.prog 109 #[.slice A 3 c, .string (strB s)] w' fun e w2 => e = .returned (.bool q) ∧ w' = w2) := Lib.hid (fun w' A c hL => by rw [hq]; exact HV.out w' A c hL)
  rw [← hq]
  clear HV hq
  go_enter Tryz.func64, Tryz.ntmps64
  go_wp2_with fail
  refine (HV2.out _ _ _ H.out).mono ?_
  rintro e w' ⟨rfl, rfl⟩
  go_wp2_with fail
  go_ret
  exact ⟨rfl, (Below.refl _ _).alloc (Nat.le_refl _) _⟩
end Go.Proofs.YtbfojibhdadglaaGreatDoor
/- The reference's typeChecked: a type's first error. -/
namespace Go.Proofs.YtbfojibhdadglaaGreatDoor
open Go.RowKit

def TcSays (e : Ty) : Prop := ∀ (cs : List Value) (w : World), RepT (fun _ => True) w e cs → Calls Tryz.prog 21 #[.agg cs.toArray] w fun e' w' => e' = .returned (.int .i64 (tyErr e)) ∧ Below w.heap.size w w'
set_option maxRecDepth 100000 in
set_option maxHeartbeats 16000000 in
theorem rTyChk_any : ∀ e, TcSays e := by
  refine Ty.ind fun e ih cs w h1 => ?_
  cases e with
  | mk k n s l ls tl =>
  obtain ⟨Al, cl, Ar, cr, rfl, hf, hls, hl⟩ := h1.tight
  have hPl : TParts w.heap.size w Al l := tparts_of hl
  obtain ⟨nl, hnl⟩ : ∃ q, q = l.length := ⟨_, rfl⟩
  obtain ⟨nr, hnr⟩ : ∃ q, q = ls.length := ⟨_, rfl⟩
  have hl2 : (nl : Int) ≤ 9223372036854775807 := by have := hf.hcl; unfold maxLen at this; omega
  obtain ⟨R, hR⟩ : ∃ R, R = tyErr (.mk k n s l ls tl) := ⟨_, rfl⟩
  obtain ⟨T, hT⟩ : ∃ R, R = tyNode k n s nl ls tl := ⟨_, rfl⟩
  obtain ⟨E, hE⟩ : ∃ R, R = rowErr ls tl := ⟨_, rfl⟩
  obtain ⟨V1, hV1⟩ : ∃ R, R = (decide (0 ≤ k) && decide (k ≤ 6)) := ⟨_, rfl⟩
  obtain ⟨V2, hV2⟩ : ∃ R, R = (decide (0 ≤ n) && decide (n ≤ 999999999)) := ⟨_, rfl⟩
  obtain ⟨C, hC⟩ : ∃ R, R = rCls (tyCls k) s := ⟨_, rfl⟩
  obtain ⟨B, hB⟩ : ∃ R, R = biT.contains s := ⟨_, rfl⟩
  obtain ⟨S, hS⟩ : ∃ S, S = strB s := ⟨_, rfl⟩
  have HV1 : Hid (∀ wx, Calls Tryz.prog 62 #[.int .i64 k, .int .i64 0, .int .i64 6] wx fun e w' => e = .returned (.bool V1) ∧ wx = w') := Lib.hid (fun wx => by rw [hV1]; exact In_any k 0 6 wx)
  have HV2 : Hid (∀ wx, Calls Tryz.prog 62 #[.int .i64 n, .int .i64 0, .int .i64 999999999] wx fun e w' => e = .returned (.bool V2) ∧ wx = w') := Lib.hid (fun wx => by rw [hV2]; exact In_any n 0 999999999 wx)
  have HC : Hid (∀ wx, Calls Tryz.prog 63 #[.string S, .int .i64 (tyCls k)] wx fun e w' => e = .returned (.bool C) ∧ Below wx.heap.size wx w') := Lib.hid (fun wx => by rw [hS, hC]; exact class_any s (tyCls k) wx hf.hs)
  have HBi : Hid (∀ wx, Calls Tryz.prog 64 #[.string S] wx fun e w' => e = .returned (.bool B) ∧ Below wx.heap.size wx w') := Lib.hid (fun wx => by rw [hS, hB]; exact builtin_any s wx)
  have HRow : Hid (∀ wx, Below w.heap.size w wx → Calls Tryz.prog 65 #[.agg #[.slice Ar nr cr, .int .i64 tl]] wx fun e w' => e = .returned (.int .i64 E) ∧ Below wx.heap.size wx w') := Lib.hid (fun wx hb => by rw [hnr, hE]; exact rRow_any _ Ar cr ls tl wx (hls.keep (Same.of_below hb)) (Nat.le_trans hf.hcr.1 hf.hcr.2) (fun x hx => (hf.hls x hx).1))
  have HR : Hid (R = if T = 0 then tysErr l else T) := Lib.hid (by rw [hR, hT, hnl, tyErr])
  show Calls Tryz.prog 21 #[.agg #[.int .i64 k, .int .i64 n, .string (strB s), .slice Al l.length cl, .slice Ar ls.length cr, .int .i64 tl]] w fun e' w' => e' = .returned (.int .i64 (tyErr (.mk k n s l ls tl))) ∧ Below w.heap.size w w'
  rw [← hR, ← hS, ← hnl, ← hnr]
  have HRv : Hid (∀ v, T = v → v ≠ 0 → R = v) := Lib.hid (fun v h h0 => by rw [HR.out, if_neg (by rw [h]; exact h0), h])
  have HNl := Lib.hid hnl
  have HNr := Lib.hid hnr
  have HPl := Lib.hid hPl
  have HIH := Lib.hid ih
  have HT : Hid (T = tyNode k n s nl ls tl) := Lib.hid hT
  have HE := Lib.hid hE
  have HCe := Lib.hid hC
  have HBe := Lib.hid hB
  have HV1e := Lib.hid hV1
  have HV2e := Lib.hid hV2
  obtain ⟨W1, hW1⟩ : ∃ W1, w.alloc (.cells #[.int .i64 k, .int .i64 n, .string S, .slice Al nl cl, .slice Ar nr cr, .int .i64 tl] 28) = W1 := ⟨_, rfl⟩
  have HB1 : Hid (Below w.heap.size w W1) := Lib.hid (by rw [← hW1]; exact (Below.refl _ _).alloc (Nat.le_refl _) _)
  have HE1 : Hid (TyBx W1 w.heap.size (.int .i64 k) (.int .i64 n) (.string S) (.slice Al nl cl) (.slice Ar nr cr) (.int .i64 tl)) := Lib.hid (by rw [← hW1]; exact TyBx.new w _ _ _ _ _ _)
  have hzw : w.heap.size < W1.heap.size := by rw [← hW1]; simp
  obtain ⟨a0, a1, a2, a3, a4, a5⟩ := HE1.out.c
  clear h1 hf hls hl hPl ih hS hV1 hV2 hC hB hE hT hR hnl hnr
  cases V1 with
  | false =>
    have HRf : Hid (R = 1) := Lib.hid (HRv.out _ (by rw [HT.out, tyNode, if_pos (.inl HV1e.out.symm)]) (by decide))
    clear HRv HT HR HE HCe HBe HV1e HV2e
    go_enter Tryz.func21, Tryz.ntmps21
    go_wp2_with fail
    clear hW1
    refine (HV1.out _).mono ?_
    rintro e w' ⟨rfl, rfl⟩
    go_wp2_with fail
    go_ret
    exact ⟨by rw [HRf.out]; rfl, HB1.out⟩
  | true =>
    cases V2 with
    | false =>
      have HRf : Hid (R = 1) := Lib.hid (HRv.out _ (by rw [HT.out, tyNode, if_pos (.inr (.inl HV2e.out.symm))]) (by decide))
      clear HRv HT HR HE HCe HBe HV1e HV2e
      go_enter Tryz.func21, Tryz.ntmps21
      go_wp2_with fail
      clear hW1
      refine (HV1.out _).mono ?_
      rintro e w' ⟨rfl, rfl⟩
      go_wp2_with fail
      refine (HV2.out _).mono ?_
      rintro e w' ⟨rfl, rfl⟩
      go_wp2_with fail
      go_ret
      exact ⟨by rw [HRf.out]; rfl, HB1.out⟩
    | true =>
      by_cases g0 : k ≠ 0 ∧ n ≠ 0
      case pos =>
        have HRf : Hid (R = 1) := Lib.hid (HRv.out _ (by rw [HT.out, tyNode, if_pos (.inr (.inr g0))]) (by decide))
        have f1 : (k != 0) = true := by simpa using g0.1
        have f2 : (n != 0) = true := by simpa using g0.2
        clear g0
        clear HRv HT HR HE HCe HBe HV1e HV2e
        go_enter Tryz.func21, Tryz.ntmps21
        go_wp2_with fail
        clear hW1
        refine (HV1.out _).mono ?_
        rintro e w' ⟨rfl, rfl⟩
        go_wp2_with fail
        refine (HV2.out _).mono ?_
        rintro e w' ⟨rfl, rfl⟩
        go_wp2_with fail
        go_ret
        exact ⟨by rw [HRf.out]; rfl, HB1.out⟩
      have hk : k = 0 ∨ k = 1 ∨ k = 2 ∨ k = 3 ∨ k = 4 ∨ k = 5 ∨ k = 6 := by
        have h := HV1e.out.symm
        simp only [Bool.and_eq_true, decide_eq_true_eq] at h
        omega
      have hN1 : ¬ ((decide (0 ≤ k) && decide (k ≤ 6)) = false ∨ (decide (0 ≤ n) && decide (n ≤ 999999999)) = false ∨ (k ≠ 0 ∧ n ≠ 0)) := by
        rintro (h | h | h)
        · rw [← HV1e.out] at h; cases h
        · rw [← HV2e.out] at h; cases h
        · exact g0 h
      have HN1 := Lib.hid hN1
      clear hN1
      rcases hk with rfl | rfl | rfl | rfl | rfl | rfl | rfl
      ·
        have HC0 : Hid (∀ wx, Calls Tryz.prog 63 #[.string S, .int .i64 0] wx fun e w' => e = .returned (.bool C) ∧ Below wx.heap.size wx w') := HC
        clear HC
        clear g0
        cases C with
        | false =>
          have HRf : Hid (R = 4) := Lib.hid (HRv.out _ (by rw [HT.out, tyNode, if_neg HN1.out, if_pos (.inl HCe.out.symm)]) (by decide))
          clear HRv HT HR HE HCe HBe HV1e HV2e HN1
          go_enter Tryz.func21, Tryz.ntmps21
          go_wp2_with fail
          clear hW1
          refine (HV1.out _).mono ?_
          rintro e w' ⟨rfl, rfl⟩
          go_wp2_with fail
          refine (HV2.out _).mono ?_
          rintro e w' ⟨rfl, rfl⟩
          go_wp2_with fail
          refine (HC0.out _).mono ?_
          rintro e W2 ⟨rfl, hb⟩
          have HB2 := Lib.hid (HB1.out.trans (hb.mono HB1.out.size))
          have HE2 := Lib.hid (HE1.out.kept (grown_below hb none) (by simp))
          clear hb a0 a1 a2 a3 a4 a5
          obtain ⟨a0, a1, a2, a3, a4, a5⟩ := HE2.out.c
          go_wp2_with fail
          go_ret
          exact ⟨by rw [HRf.out]; rfl, HB2.out⟩
        | true =>
          have HN2 : Hid (¬ (rCls (tyCls 0) s = false ∨ ((0 : Int) = 6 ∧ biT.contains s = true))) := Lib.hid (by
            rintro (h | h)
            · rw [← HCe.out] at h; cases h
            · exact absurd h.1 (by decide))
          by_cases g3 : 0 < nl
          case pos =>
            have HRf : Hid (R = 7) := Lib.hid (HRv.out _ (by rw [HT.out, tyNode, if_neg HN1.out, if_neg HN2.out, if_pos (by omega)]) (by decide))
            have f3 : decide ((0 : Int) < (nl : Int)) = true := decide_eq_true (by omega)
            have f3n : decide (0 < nl) = true := decide_eq_true (by omega)
            clear g3
            clear HRv HT HR HE HCe HBe HV1e HV2e HN1 HN2
            go_enter Tryz.func21, Tryz.ntmps21
            go_wp2_with fail
            clear hW1
            refine (HV1.out _).mono ?_
            rintro e w' ⟨rfl, rfl⟩
            go_wp2_with fail
            refine (HV2.out _).mono ?_
            rintro e w' ⟨rfl, rfl⟩
            go_wp2_with fail
            refine (HC0.out _).mono ?_
            rintro e W2 ⟨rfl, hb⟩
            have HB2 := Lib.hid (HB1.out.trans (hb.mono HB1.out.size))
            have HE2 := Lib.hid (HE1.out.kept (grown_below hb none) (by simp))
            clear hb a0 a1 a2 a3 a4 a5
            obtain ⟨a0, a1, a2, a3, a4, a5⟩ := HE2.out.c
            go_wp2_with fail
            go_ret
            exact ⟨by rw [HRf.out]; rfl, HB2.out⟩
          have f3 : decide ((0 : Int) < (nl : Int)) = false := decide_eq_false (by omega)
          have f3n : decide (0 < nl) = false := decide_eq_false (by omega)
          have HN3 : Hid (¬ (((0 : Int) = 5 ∧ nl ≠ 2) ∨ ((0 : Int) = 6 ∧ 4 < nl) ∨ ((0 : Int) ≠ 5 ∧ (0 : Int) ≠ 6 ∧ 0 < nl))) := Lib.hid (by omega)
          clear g3
          by_cases g4 : 0 < nr
          case pos =>
            have HRf : Hid (R = 1) := Lib.hid (HRv.out _ (by rw [HT.out, tyNode, if_neg HN1.out, if_neg HN2.out, if_neg HN3.out, if_pos ⟨by decide, .inl (by rw [← HNr.out]; exact g4)⟩]) (by decide))
            have f4 : decide ((0 : Int) < (nr : Int)) = true := decide_eq_true (by omega)
            have f4n : decide (0 < nr) = true := decide_eq_true (by omega)
            clear g4
            clear HRv HT HR HE HCe HBe HV1e HV2e HN1 HN2 HN3
            go_enter Tryz.func21, Tryz.ntmps21
            go_wp2_with fail
            clear hW1
            refine (HV1.out _).mono ?_
            rintro e w' ⟨rfl, rfl⟩
            go_wp2_with fail
            refine (HV2.out _).mono ?_
            rintro e w' ⟨rfl, rfl⟩
            go_wp2_with fail
            refine (HC0.out _).mono ?_
            rintro e W2 ⟨rfl, hb⟩
            have HB2 := Lib.hid (HB1.out.trans (hb.mono HB1.out.size))
            have HE2 := Lib.hid (HE1.out.kept (grown_below hb none) (by simp))
            clear hb a0 a1 a2 a3 a4 a5
            obtain ⟨a0, a1, a2, a3, a4, a5⟩ := HE2.out.c
            go_wp2_with fail
            go_ret
            exact ⟨by rw [HRf.out]; rfl, HB2.out⟩
          have f4 : decide ((0 : Int) < (nr : Int)) = false := decide_eq_false (by omega)
          have f4n : decide (0 < nr) = false := decide_eq_false (by omega)
          by_cases g5 : tl = 0
          case neg =>
            have HRf : Hid (R = 1) := Lib.hid (HRv.out _ (by rw [HT.out, tyNode, if_neg HN1.out, if_neg HN2.out, if_neg HN3.out, if_pos ⟨by decide, .inr g5⟩]) (by decide))
            have f5 : (tl != 0) = true := by simpa using g5
            clear g4 g5
            clear HRv HT HR HE HCe HBe HV1e HV2e HN1 HN2 HN3
            go_enter Tryz.func21, Tryz.ntmps21
            go_wp2_with fail
            clear hW1
            refine (HV1.out _).mono ?_
            rintro e w' ⟨rfl, rfl⟩
            go_wp2_with fail
            refine (HV2.out _).mono ?_
            rintro e w' ⟨rfl, rfl⟩
            go_wp2_with fail
            refine (HC0.out _).mono ?_
            rintro e W2 ⟨rfl, hb⟩
            have HB2 := Lib.hid (HB1.out.trans (hb.mono HB1.out.size))
            have HE2 := Lib.hid (HE1.out.kept (grown_below hb none) (by simp))
            clear hb a0 a1 a2 a3 a4 a5
            obtain ⟨a0, a1, a2, a3, a4, a5⟩ := HE2.out.c
            go_wp2_with fail
            go_ret
            exact ⟨by rw [HRf.out]; rfl, HB2.out⟩
          have HRl : Hid (R = tysErr l) := Lib.hid (by
            have e : T = 0 := by
              rw [HT.out, tyNode, if_neg HN1.out, if_neg HN2.out, if_neg HN3.out, if_neg (fun h => h.2.elim (fun q => g4 (by rw [HNr.out]; exact q)) (fun q => q g5)), if_neg (by decide)]
            rw [HR.out, if_pos e])
          have f5 : (tl != 0) = false := by simpa using g5
          clear g4 g5
          clear HRv HT HR HE HCe HBe HV1e HV2e HN1 HN2 HN3
          go_enter Tryz.func21, Tryz.ntmps21
          go_wp2_with fail
          clear hW1
          refine (HV1.out _).mono ?_
          rintro e w' ⟨rfl, rfl⟩
          go_wp2_with fail
          refine (HV2.out _).mono ?_
          rintro e w' ⟨rfl, rfl⟩
          go_wp2_with fail
          refine (HC0.out _).mono ?_
          rintro e W2 ⟨rfl, hb⟩
          have HB2 := Lib.hid (HB1.out.trans (hb.mono HB1.out.size))
          have HE2 := Lib.hid (HE1.out.kept (grown_below hb none) (by simp))
          clear hb a0 a1 a2 a3 a4 a5
          obtain ⟨a0, a1, a2, a3, a4, a5⟩ := HE2.out.c
          go_wp2_with fail
          go_loopw [5] (fun i wr => ∃ kk : Nat, kk ≤ nl ∧ i = .int .i64 (kk : Int) ∧ Hid (Below W2.heap.size W2 wr) ∧ Hid (tysErr (l.take kk) = 0)) (fun i _ => nl - (intOf i).toNat)
          case atStart => exact ⟨0, Nat.zero_le _, rfl, Lib.hid (Below.refl _ _), Lib.hid rfl⟩
          case round =>
            obtain ⟨kk, hkk, rfl, hB, hSm⟩ := hrel
            clear a0 a1 a2 a3 a4 a5
            have HBr := Lib.hid (HB2.out.trans (hB.out.mono HB2.out.size))
            have HEr := Lib.hid (HE2.out.kept (grown_below hB.out none) (by simp))
            obtain ⟨_, _, _, a3, _, _⟩ := HEr.out.c
            have j0 : (0 : Int) ≤ (kk : Int) := by omega
            by_cases hkl : kk < nl
            case pos =>
              have hk1 : kk < l.length := by rw [← HNl.out]; exact hkl
              have j1 : (kk : Int) < (nl : Int) := by omega
              obtain ⟨x, hx⟩ : ∃ x, x = l[kk] := ⟨_, rfl⟩
              have hxl : l[kk]? = some x := by rw [hx]; exact List.getElem?_eq_getElem hk1
              obtain ⟨b, off, rfl⟩ := HPl.out.addr (by omega)
              obtain ⟨hbx, k1, m1, s1, X0, p0, c0, X1, p1, c1, t1, hcx⟩ := HPl.out.at hxl
              obtain ⟨f0, f1, f2, f3, f4, f5⟩ := hcx.up hbx HBr.out
              obtain ⟨V, hV⟩ : ∃ V, V = tyErr x := ⟨_, rfl⟩
              have HX : Hid (Calls Tryz.prog 21 #[.agg #[.int .i64 k1, .int .i64 m1, .string s1, .slice X0 p0 c0, .slice X1 p1 c1, .int .i64 t1]] wr fun e w' => e = .returned (.int .i64 V) ∧ Below wr.heap.size wr w') := Lib.hid (by
                rw [hV]
                exact HIH.out x (List.mem_of_getElem? hxl) _ wr ((hcx.rep.weaken (Q := fun _ => True) (fun _ _ => trivial)).keep (Same.of_below HBr.out)))
              have HTk : Hid (V = 0 → tysErr (l.take (kk + 1)) = 0) := Lib.hid (fun h => by rw [take_succ_of hk1, tysErr_snoc _ _ hSm.out, ← hx, ← hV, h])
              have HBad : Hid (V ≠ 0 → R = V) := Lib.hid (fun h => by rw [HRl.out, tysErr_at l kk x hSm.out hxl (by rw [← hV]; exact h), hV])
              clear hx hxl hcx hV hbx
              by_cases q0 : V = 0
              case neg =>
                have HRf := Lib.hid (HBad.out q0)
                have f9 : (V != 0) = true := by simpa using q0
                clear q0 HBad HTk
                go_wp2_with fail
                refine HX.out.mono ?_
                rintro e w' ⟨rfl, hb⟩
                have HBn := Lib.hid (hB.out.trans (hb.mono hB.out.size))
                clear hb a3
                go_wp2_with fail
                go_ret
                exact ⟨by rw [HRf.out]; rfl, HB2.out.trans (HBn.out.mono HB2.out.size)⟩
              have HT2 := Lib.hid (HTk.out q0)
              subst q0
              clear HBad HTk
              go_wp2_with fail
              refine HX.out.mono ?_
              rintro e w' ⟨rfl, hb⟩
              have HBn := Lib.hid (hB.out.trans (hb.mono hB.out.size))
              clear hb a3
              go_wp2_with fail
              go_roundw
              case rel => exact ⟨kk + 1, by omega, by go_num, HBn, HT2⟩
              case measure => simp [intOf]; omega
            case neg =>
              obtain rfl : kk = nl := by omega
              have HRf : Hid (R = 0) := Lib.hid (by have h := hSm.out; rw [List.take_of_length_le (by rw [← HNl.out]; exact Nat.le_refl _)] at h; rw [HRl.out, h])
              go_wp2_with fail
              go_ret
              exact ⟨by rw [HRf.out]; rfl, HBr.out⟩
      ·
        have HC1 : Hid (∀ wx, Calls Tryz.prog 63 #[.string S, .int .i64 1] wx fun e w' => e = .returned (.bool C) ∧ Below wx.heap.size wx w') := HC
        clear HC
        obtain rfl : n = 0 := by
          by_cases h : n = 0
          · exact h
          · exact absurd ⟨by decide, h⟩ g0
        clear g0
        cases C with
        | false =>
          have HRf : Hid (R = 4) := Lib.hid (HRv.out _ (by rw [HT.out, tyNode, if_neg HN1.out, if_pos (.inl HCe.out.symm)]) (by decide))
          clear HRv HT HR HE HCe HBe HV1e HV2e HN1
          go_enter Tryz.func21, Tryz.ntmps21
          go_wp2_with fail
          clear hW1
          refine (HV1.out _).mono ?_
          rintro e w' ⟨rfl, rfl⟩
          go_wp2_with fail
          refine (HV2.out _).mono ?_
          rintro e w' ⟨rfl, rfl⟩
          go_wp2_with fail
          refine (HC1.out _).mono ?_
          rintro e W2 ⟨rfl, hb⟩
          have HB2 := Lib.hid (HB1.out.trans (hb.mono HB1.out.size))
          have HE2 := Lib.hid (HE1.out.kept (grown_below hb none) (by simp))
          clear hb a0 a1 a2 a3 a4 a5
          obtain ⟨a0, a1, a2, a3, a4, a5⟩ := HE2.out.c
          go_wp2_with fail
          go_ret
          exact ⟨by rw [HRf.out]; rfl, HB2.out⟩
        | true =>
          have HN2 : Hid (¬ (rCls (tyCls 1) s = false ∨ ((1 : Int) = 6 ∧ biT.contains s = true))) := Lib.hid (by
            rintro (h | h)
            · rw [← HCe.out] at h; cases h
            · exact absurd h.1 (by decide))
          by_cases g3 : 0 < nl
          case pos =>
            have HRf : Hid (R = 7) := Lib.hid (HRv.out _ (by rw [HT.out, tyNode, if_neg HN1.out, if_neg HN2.out, if_pos (by omega)]) (by decide))
            have f3 : decide ((0 : Int) < (nl : Int)) = true := decide_eq_true (by omega)
            have f3n : decide (0 < nl) = true := decide_eq_true (by omega)
            clear g3
            clear HRv HT HR HE HCe HBe HV1e HV2e HN1 HN2
            go_enter Tryz.func21, Tryz.ntmps21
            go_wp2_with fail
            clear hW1
            refine (HV1.out _).mono ?_
            rintro e w' ⟨rfl, rfl⟩
            go_wp2_with fail
            refine (HV2.out _).mono ?_
            rintro e w' ⟨rfl, rfl⟩
            go_wp2_with fail
            refine (HC1.out _).mono ?_
            rintro e W2 ⟨rfl, hb⟩
            have HB2 := Lib.hid (HB1.out.trans (hb.mono HB1.out.size))
            have HE2 := Lib.hid (HE1.out.kept (grown_below hb none) (by simp))
            clear hb a0 a1 a2 a3 a4 a5
            obtain ⟨a0, a1, a2, a3, a4, a5⟩ := HE2.out.c
            go_wp2_with fail
            go_ret
            exact ⟨by rw [HRf.out]; rfl, HB2.out⟩
          have f3 : decide ((0 : Int) < (nl : Int)) = false := decide_eq_false (by omega)
          have f3n : decide (0 < nl) = false := decide_eq_false (by omega)
          have HN3 : Hid (¬ (((1 : Int) = 5 ∧ nl ≠ 2) ∨ ((1 : Int) = 6 ∧ 4 < nl) ∨ ((1 : Int) ≠ 5 ∧ (1 : Int) ≠ 6 ∧ 0 < nl))) := Lib.hid (by omega)
          clear g3
          by_cases g4 : 0 < nr
          case pos =>
            have HRf : Hid (R = 1) := Lib.hid (HRv.out _ (by rw [HT.out, tyNode, if_neg HN1.out, if_neg HN2.out, if_neg HN3.out, if_pos ⟨by decide, .inl (by rw [← HNr.out]; exact g4)⟩]) (by decide))
            have f4 : decide ((0 : Int) < (nr : Int)) = true := decide_eq_true (by omega)
            have f4n : decide (0 < nr) = true := decide_eq_true (by omega)
            clear g4
            clear HRv HT HR HE HCe HBe HV1e HV2e HN1 HN2 HN3
            go_enter Tryz.func21, Tryz.ntmps21
            go_wp2_with fail
            clear hW1
            refine (HV1.out _).mono ?_
            rintro e w' ⟨rfl, rfl⟩
            go_wp2_with fail
            refine (HV2.out _).mono ?_
            rintro e w' ⟨rfl, rfl⟩
            go_wp2_with fail
            refine (HC1.out _).mono ?_
            rintro e W2 ⟨rfl, hb⟩
            have HB2 := Lib.hid (HB1.out.trans (hb.mono HB1.out.size))
            have HE2 := Lib.hid (HE1.out.kept (grown_below hb none) (by simp))
            clear hb a0 a1 a2 a3 a4 a5
            obtain ⟨a0, a1, a2, a3, a4, a5⟩ := HE2.out.c
            go_wp2_with fail
            go_ret
            exact ⟨by rw [HRf.out]; rfl, HB2.out⟩
          have f4 : decide ((0 : Int) < (nr : Int)) = false := decide_eq_false (by omega)
          have f4n : decide (0 < nr) = false := decide_eq_false (by omega)
          by_cases g5 : tl = 0
          case neg =>
            have HRf : Hid (R = 1) := Lib.hid (HRv.out _ (by rw [HT.out, tyNode, if_neg HN1.out, if_neg HN2.out, if_neg HN3.out, if_pos ⟨by decide, .inr g5⟩]) (by decide))
            have f5 : (tl != 0) = true := by simpa using g5
            clear g4 g5
            clear HRv HT HR HE HCe HBe HV1e HV2e HN1 HN2 HN3
            go_enter Tryz.func21, Tryz.ntmps21
            go_wp2_with fail
            clear hW1
            refine (HV1.out _).mono ?_
            rintro e w' ⟨rfl, rfl⟩
            go_wp2_with fail
            refine (HV2.out _).mono ?_
            rintro e w' ⟨rfl, rfl⟩
            go_wp2_with fail
            refine (HC1.out _).mono ?_
            rintro e W2 ⟨rfl, hb⟩
            have HB2 := Lib.hid (HB1.out.trans (hb.mono HB1.out.size))
            have HE2 := Lib.hid (HE1.out.kept (grown_below hb none) (by simp))
            clear hb a0 a1 a2 a3 a4 a5
            obtain ⟨a0, a1, a2, a3, a4, a5⟩ := HE2.out.c
            go_wp2_with fail
            go_ret
            exact ⟨by rw [HRf.out]; rfl, HB2.out⟩
          have HRl : Hid (R = tysErr l) := Lib.hid (by
            have e : T = 0 := by
              rw [HT.out, tyNode, if_neg HN1.out, if_neg HN2.out, if_neg HN3.out, if_neg (fun h => h.2.elim (fun q => g4 (by rw [HNr.out]; exact q)) (fun q => q g5)), if_neg (by decide)]
            rw [HR.out, if_pos e])
          have f5 : (tl != 0) = false := by simpa using g5
          clear g4 g5
          clear HRv HT HR HE HCe HBe HV1e HV2e HN1 HN2 HN3
          go_enter Tryz.func21, Tryz.ntmps21
          go_wp2_with fail
          clear hW1
          refine (HV1.out _).mono ?_
          rintro e w' ⟨rfl, rfl⟩
          go_wp2_with fail
          refine (HV2.out _).mono ?_
          rintro e w' ⟨rfl, rfl⟩
          go_wp2_with fail
          refine (HC1.out _).mono ?_
          rintro e W2 ⟨rfl, hb⟩
          have HB2 := Lib.hid (HB1.out.trans (hb.mono HB1.out.size))
          have HE2 := Lib.hid (HE1.out.kept (grown_below hb none) (by simp))
          clear hb a0 a1 a2 a3 a4 a5
          obtain ⟨a0, a1, a2, a3, a4, a5⟩ := HE2.out.c
          go_wp2_with fail
          go_loopw [5] (fun i wr => ∃ kk : Nat, kk ≤ nl ∧ i = .int .i64 (kk : Int) ∧ Hid (Below W2.heap.size W2 wr) ∧ Hid (tysErr (l.take kk) = 0)) (fun i _ => nl - (intOf i).toNat)
          case atStart => exact ⟨0, Nat.zero_le _, rfl, Lib.hid (Below.refl _ _), Lib.hid rfl⟩
          case round =>
            obtain ⟨kk, hkk, rfl, hB, hSm⟩ := hrel
            clear a0 a1 a2 a3 a4 a5
            have HBr := Lib.hid (HB2.out.trans (hB.out.mono HB2.out.size))
            have HEr := Lib.hid (HE2.out.kept (grown_below hB.out none) (by simp))
            obtain ⟨_, _, _, a3, _, _⟩ := HEr.out.c
            have j0 : (0 : Int) ≤ (kk : Int) := by omega
            by_cases hkl : kk < nl
            case pos =>
              have hk1 : kk < l.length := by rw [← HNl.out]; exact hkl
              have j1 : (kk : Int) < (nl : Int) := by omega
              obtain ⟨x, hx⟩ : ∃ x, x = l[kk] := ⟨_, rfl⟩
              have hxl : l[kk]? = some x := by rw [hx]; exact List.getElem?_eq_getElem hk1
              obtain ⟨b, off, rfl⟩ := HPl.out.addr (by omega)
              obtain ⟨hbx, k1, m1, s1, X0, p0, c0, X1, p1, c1, t1, hcx⟩ := HPl.out.at hxl
              obtain ⟨f0, f1, f2, f3, f4, f5⟩ := hcx.up hbx HBr.out
              obtain ⟨V, hV⟩ : ∃ V, V = tyErr x := ⟨_, rfl⟩
              have HX : Hid (Calls Tryz.prog 21 #[.agg #[.int .i64 k1, .int .i64 m1, .string s1, .slice X0 p0 c0, .slice X1 p1 c1, .int .i64 t1]] wr fun e w' => e = .returned (.int .i64 V) ∧ Below wr.heap.size wr w') := Lib.hid (by
                rw [hV]
                exact HIH.out x (List.mem_of_getElem? hxl) _ wr ((hcx.rep.weaken (Q := fun _ => True) (fun _ _ => trivial)).keep (Same.of_below HBr.out)))
              have HTk : Hid (V = 0 → tysErr (l.take (kk + 1)) = 0) := Lib.hid (fun h => by rw [take_succ_of hk1, tysErr_snoc _ _ hSm.out, ← hx, ← hV, h])
              have HBad : Hid (V ≠ 0 → R = V) := Lib.hid (fun h => by rw [HRl.out, tysErr_at l kk x hSm.out hxl (by rw [← hV]; exact h), hV])
              clear hx hxl hcx hV hbx
              by_cases q0 : V = 0
              case neg =>
                have HRf := Lib.hid (HBad.out q0)
                have f9 : (V != 0) = true := by simpa using q0
                clear q0 HBad HTk
                go_wp2_with fail
                refine HX.out.mono ?_
                rintro e w' ⟨rfl, hb⟩
                have HBn := Lib.hid (hB.out.trans (hb.mono hB.out.size))
                clear hb a3
                go_wp2_with fail
                go_ret
                exact ⟨by rw [HRf.out]; rfl, HB2.out.trans (HBn.out.mono HB2.out.size)⟩
              have HT2 := Lib.hid (HTk.out q0)
              subst q0
              clear HBad HTk
              go_wp2_with fail
              refine HX.out.mono ?_
              rintro e w' ⟨rfl, hb⟩
              have HBn := Lib.hid (hB.out.trans (hb.mono hB.out.size))
              clear hb a3
              go_wp2_with fail
              go_roundw
              case rel => exact ⟨kk + 1, by omega, by go_num, HBn, HT2⟩
              case measure => simp [intOf]; omega
            case neg =>
              obtain rfl : kk = nl := by omega
              have HRf : Hid (R = 0) := Lib.hid (by have h := hSm.out; rw [List.take_of_length_le (by rw [← HNl.out]; exact Nat.le_refl _)] at h; rw [HRl.out, h])
              go_wp2_with fail
              go_ret
              exact ⟨by rw [HRf.out]; rfl, HBr.out⟩
      ·
        have HC2 : Hid (∀ wx, Calls Tryz.prog 63 #[.string S, .int .i64 0] wx fun e w' => e = .returned (.bool C) ∧ Below wx.heap.size wx w') := HC
        clear HC
        obtain rfl : n = 0 := by
          by_cases h : n = 0
          · exact h
          · exact absurd ⟨by decide, h⟩ g0
        clear g0
        cases C with
        | false =>
          have HRf : Hid (R = 4) := Lib.hid (HRv.out _ (by rw [HT.out, tyNode, if_neg HN1.out, if_pos (.inl HCe.out.symm)]) (by decide))
          clear HRv HT HR HE HCe HBe HV1e HV2e HN1
          go_enter Tryz.func21, Tryz.ntmps21
          go_wp2_with fail
          clear hW1
          refine (HV1.out _).mono ?_
          rintro e w' ⟨rfl, rfl⟩
          go_wp2_with fail
          refine (HV2.out _).mono ?_
          rintro e w' ⟨rfl, rfl⟩
          go_wp2_with fail
          refine (HC2.out _).mono ?_
          rintro e W2 ⟨rfl, hb⟩
          have HB2 := Lib.hid (HB1.out.trans (hb.mono HB1.out.size))
          have HE2 := Lib.hid (HE1.out.kept (grown_below hb none) (by simp))
          clear hb a0 a1 a2 a3 a4 a5
          obtain ⟨a0, a1, a2, a3, a4, a5⟩ := HE2.out.c
          go_wp2_with fail
          go_ret
          exact ⟨by rw [HRf.out]; rfl, HB2.out⟩
        | true =>
          have HN2 : Hid (¬ (rCls (tyCls 2) s = false ∨ ((2 : Int) = 6 ∧ biT.contains s = true))) := Lib.hid (by
            rintro (h | h)
            · rw [← HCe.out] at h; cases h
            · exact absurd h.1 (by decide))
          by_cases g3 : 0 < nl
          case pos =>
            have HRf : Hid (R = 7) := Lib.hid (HRv.out _ (by rw [HT.out, tyNode, if_neg HN1.out, if_neg HN2.out, if_pos (by omega)]) (by decide))
            have f3 : decide ((0 : Int) < (nl : Int)) = true := decide_eq_true (by omega)
            have f3n : decide (0 < nl) = true := decide_eq_true (by omega)
            clear g3
            clear HRv HT HR HE HCe HBe HV1e HV2e HN1 HN2
            go_enter Tryz.func21, Tryz.ntmps21
            go_wp2_with fail
            clear hW1
            refine (HV1.out _).mono ?_
            rintro e w' ⟨rfl, rfl⟩
            go_wp2_with fail
            refine (HV2.out _).mono ?_
            rintro e w' ⟨rfl, rfl⟩
            go_wp2_with fail
            refine (HC2.out _).mono ?_
            rintro e W2 ⟨rfl, hb⟩
            have HB2 := Lib.hid (HB1.out.trans (hb.mono HB1.out.size))
            have HE2 := Lib.hid (HE1.out.kept (grown_below hb none) (by simp))
            clear hb a0 a1 a2 a3 a4 a5
            obtain ⟨a0, a1, a2, a3, a4, a5⟩ := HE2.out.c
            go_wp2_with fail
            go_ret
            exact ⟨by rw [HRf.out]; rfl, HB2.out⟩
          have f3 : decide ((0 : Int) < (nl : Int)) = false := decide_eq_false (by omega)
          have f3n : decide (0 < nl) = false := decide_eq_false (by omega)
          have HN3 : Hid (¬ (((2 : Int) = 5 ∧ nl ≠ 2) ∨ ((2 : Int) = 6 ∧ 4 < nl) ∨ ((2 : Int) ≠ 5 ∧ (2 : Int) ≠ 6 ∧ 0 < nl))) := Lib.hid (by omega)
          clear g3
          by_cases g4 : 0 < nr
          case pos =>
            have HRf : Hid (R = 1) := Lib.hid (HRv.out _ (by rw [HT.out, tyNode, if_neg HN1.out, if_neg HN2.out, if_neg HN3.out, if_pos ⟨by decide, .inl (by rw [← HNr.out]; exact g4)⟩]) (by decide))
            have f4 : decide ((0 : Int) < (nr : Int)) = true := decide_eq_true (by omega)
            have f4n : decide (0 < nr) = true := decide_eq_true (by omega)
            clear g4
            clear HRv HT HR HE HCe HBe HV1e HV2e HN1 HN2 HN3
            go_enter Tryz.func21, Tryz.ntmps21
            go_wp2_with fail
            clear hW1
            refine (HV1.out _).mono ?_
            rintro e w' ⟨rfl, rfl⟩
            go_wp2_with fail
            refine (HV2.out _).mono ?_
            rintro e w' ⟨rfl, rfl⟩
            go_wp2_with fail
            refine (HC2.out _).mono ?_
            rintro e W2 ⟨rfl, hb⟩
            have HB2 := Lib.hid (HB1.out.trans (hb.mono HB1.out.size))
            have HE2 := Lib.hid (HE1.out.kept (grown_below hb none) (by simp))
            clear hb a0 a1 a2 a3 a4 a5
            obtain ⟨a0, a1, a2, a3, a4, a5⟩ := HE2.out.c
            go_wp2_with fail
            go_ret
            exact ⟨by rw [HRf.out]; rfl, HB2.out⟩
          have f4 : decide ((0 : Int) < (nr : Int)) = false := decide_eq_false (by omega)
          have f4n : decide (0 < nr) = false := decide_eq_false (by omega)
          by_cases g5 : tl = 0
          case neg =>
            have HRf : Hid (R = 1) := Lib.hid (HRv.out _ (by rw [HT.out, tyNode, if_neg HN1.out, if_neg HN2.out, if_neg HN3.out, if_pos ⟨by decide, .inr g5⟩]) (by decide))
            have f5 : (tl != 0) = true := by simpa using g5
            clear g4 g5
            clear HRv HT HR HE HCe HBe HV1e HV2e HN1 HN2 HN3
            go_enter Tryz.func21, Tryz.ntmps21
            go_wp2_with fail
            clear hW1
            refine (HV1.out _).mono ?_
            rintro e w' ⟨rfl, rfl⟩
            go_wp2_with fail
            refine (HV2.out _).mono ?_
            rintro e w' ⟨rfl, rfl⟩
            go_wp2_with fail
            refine (HC2.out _).mono ?_
            rintro e W2 ⟨rfl, hb⟩
            have HB2 := Lib.hid (HB1.out.trans (hb.mono HB1.out.size))
            have HE2 := Lib.hid (HE1.out.kept (grown_below hb none) (by simp))
            clear hb a0 a1 a2 a3 a4 a5
            obtain ⟨a0, a1, a2, a3, a4, a5⟩ := HE2.out.c
            go_wp2_with fail
            go_ret
            exact ⟨by rw [HRf.out]; rfl, HB2.out⟩
          have HRl : Hid (R = tysErr l) := Lib.hid (by
            have e : T = 0 := by
              rw [HT.out, tyNode, if_neg HN1.out, if_neg HN2.out, if_neg HN3.out, if_neg (fun h => h.2.elim (fun q => g4 (by rw [HNr.out]; exact q)) (fun q => q g5)), if_neg (by decide)]
            rw [HR.out, if_pos e])
          have f5 : (tl != 0) = false := by simpa using g5
          clear g4 g5
          clear HRv HT HR HE HCe HBe HV1e HV2e HN1 HN2 HN3
          go_enter Tryz.func21, Tryz.ntmps21
          go_wp2_with fail
          clear hW1
          refine (HV1.out _).mono ?_
          rintro e w' ⟨rfl, rfl⟩
          go_wp2_with fail
          refine (HV2.out _).mono ?_
          rintro e w' ⟨rfl, rfl⟩
          go_wp2_with fail
          refine (HC2.out _).mono ?_
          rintro e W2 ⟨rfl, hb⟩
          have HB2 := Lib.hid (HB1.out.trans (hb.mono HB1.out.size))
          have HE2 := Lib.hid (HE1.out.kept (grown_below hb none) (by simp))
          clear hb a0 a1 a2 a3 a4 a5
          obtain ⟨a0, a1, a2, a3, a4, a5⟩ := HE2.out.c
          go_wp2_with fail
          go_loopw [5] (fun i wr => ∃ kk : Nat, kk ≤ nl ∧ i = .int .i64 (kk : Int) ∧ Hid (Below W2.heap.size W2 wr) ∧ Hid (tysErr (l.take kk) = 0)) (fun i _ => nl - (intOf i).toNat)
          case atStart => exact ⟨0, Nat.zero_le _, rfl, Lib.hid (Below.refl _ _), Lib.hid rfl⟩
          case round =>
            obtain ⟨kk, hkk, rfl, hB, hSm⟩ := hrel
            clear a0 a1 a2 a3 a4 a5
            have HBr := Lib.hid (HB2.out.trans (hB.out.mono HB2.out.size))
            have HEr := Lib.hid (HE2.out.kept (grown_below hB.out none) (by simp))
            obtain ⟨_, _, _, a3, _, _⟩ := HEr.out.c
            have j0 : (0 : Int) ≤ (kk : Int) := by omega
            by_cases hkl : kk < nl
            case pos =>
              have hk1 : kk < l.length := by rw [← HNl.out]; exact hkl
              have j1 : (kk : Int) < (nl : Int) := by omega
              obtain ⟨x, hx⟩ : ∃ x, x = l[kk] := ⟨_, rfl⟩
              have hxl : l[kk]? = some x := by rw [hx]; exact List.getElem?_eq_getElem hk1
              obtain ⟨b, off, rfl⟩ := HPl.out.addr (by omega)
              obtain ⟨hbx, k1, m1, s1, X0, p0, c0, X1, p1, c1, t1, hcx⟩ := HPl.out.at hxl
              obtain ⟨f0, f1, f2, f3, f4, f5⟩ := hcx.up hbx HBr.out
              obtain ⟨V, hV⟩ : ∃ V, V = tyErr x := ⟨_, rfl⟩
              have HX : Hid (Calls Tryz.prog 21 #[.agg #[.int .i64 k1, .int .i64 m1, .string s1, .slice X0 p0 c0, .slice X1 p1 c1, .int .i64 t1]] wr fun e w' => e = .returned (.int .i64 V) ∧ Below wr.heap.size wr w') := Lib.hid (by
                rw [hV]
                exact HIH.out x (List.mem_of_getElem? hxl) _ wr ((hcx.rep.weaken (Q := fun _ => True) (fun _ _ => trivial)).keep (Same.of_below HBr.out)))
              have HTk : Hid (V = 0 → tysErr (l.take (kk + 1)) = 0) := Lib.hid (fun h => by rw [take_succ_of hk1, tysErr_snoc _ _ hSm.out, ← hx, ← hV, h])
              have HBad : Hid (V ≠ 0 → R = V) := Lib.hid (fun h => by rw [HRl.out, tysErr_at l kk x hSm.out hxl (by rw [← hV]; exact h), hV])
              clear hx hxl hcx hV hbx
              by_cases q0 : V = 0
              case neg =>
                have HRf := Lib.hid (HBad.out q0)
                have f9 : (V != 0) = true := by simpa using q0
                clear q0 HBad HTk
                go_wp2_with fail
                refine HX.out.mono ?_
                rintro e w' ⟨rfl, hb⟩
                have HBn := Lib.hid (hB.out.trans (hb.mono hB.out.size))
                clear hb a3
                go_wp2_with fail
                go_ret
                exact ⟨by rw [HRf.out]; rfl, HB2.out.trans (HBn.out.mono HB2.out.size)⟩
              have HT2 := Lib.hid (HTk.out q0)
              subst q0
              clear HBad HTk
              go_wp2_with fail
              refine HX.out.mono ?_
              rintro e w' ⟨rfl, hb⟩
              have HBn := Lib.hid (hB.out.trans (hb.mono hB.out.size))
              clear hb a3
              go_wp2_with fail
              go_roundw
              case rel => exact ⟨kk + 1, by omega, by go_num, HBn, HT2⟩
              case measure => simp [intOf]; omega
            case neg =>
              obtain rfl : kk = nl := by omega
              have HRf : Hid (R = 0) := Lib.hid (by have h := hSm.out; rw [List.take_of_length_le (by rw [← HNl.out]; exact Nat.le_refl _)] at h; rw [HRl.out, h])
              go_wp2_with fail
              go_ret
              exact ⟨by rw [HRf.out]; rfl, HBr.out⟩
      ·
        have HC3 : Hid (∀ wx, Calls Tryz.prog 63 #[.string S, .int .i64 0] wx fun e w' => e = .returned (.bool C) ∧ Below wx.heap.size wx w') := HC
        clear HC
        obtain rfl : n = 0 := by
          by_cases h : n = 0
          · exact h
          · exact absurd ⟨by decide, h⟩ g0
        clear g0
        cases C with
        | false =>
          have HRf : Hid (R = 4) := Lib.hid (HRv.out _ (by rw [HT.out, tyNode, if_neg HN1.out, if_pos (.inl HCe.out.symm)]) (by decide))
          clear HRv HT HR HE HCe HBe HV1e HV2e HN1
          go_enter Tryz.func21, Tryz.ntmps21
          go_wp2_with fail
          clear hW1
          refine (HV1.out _).mono ?_
          rintro e w' ⟨rfl, rfl⟩
          go_wp2_with fail
          refine (HV2.out _).mono ?_
          rintro e w' ⟨rfl, rfl⟩
          go_wp2_with fail
          refine (HC3.out _).mono ?_
          rintro e W2 ⟨rfl, hb⟩
          have HB2 := Lib.hid (HB1.out.trans (hb.mono HB1.out.size))
          have HE2 := Lib.hid (HE1.out.kept (grown_below hb none) (by simp))
          clear hb a0 a1 a2 a3 a4 a5
          obtain ⟨a0, a1, a2, a3, a4, a5⟩ := HE2.out.c
          go_wp2_with fail
          go_ret
          exact ⟨by rw [HRf.out]; rfl, HB2.out⟩
        | true =>
          have HN2 : Hid (¬ (rCls (tyCls 3) s = false ∨ ((3 : Int) = 6 ∧ biT.contains s = true))) := Lib.hid (by
            rintro (h | h)
            · rw [← HCe.out] at h; cases h
            · exact absurd h.1 (by decide))
          by_cases g3 : 0 < nl
          case pos =>
            have HRf : Hid (R = 7) := Lib.hid (HRv.out _ (by rw [HT.out, tyNode, if_neg HN1.out, if_neg HN2.out, if_pos (by omega)]) (by decide))
            have f3 : decide ((0 : Int) < (nl : Int)) = true := decide_eq_true (by omega)
            have f3n : decide (0 < nl) = true := decide_eq_true (by omega)
            clear g3
            clear HRv HT HR HE HCe HBe HV1e HV2e HN1 HN2
            go_enter Tryz.func21, Tryz.ntmps21
            go_wp2_with fail
            clear hW1
            refine (HV1.out _).mono ?_
            rintro e w' ⟨rfl, rfl⟩
            go_wp2_with fail
            refine (HV2.out _).mono ?_
            rintro e w' ⟨rfl, rfl⟩
            go_wp2_with fail
            refine (HC3.out _).mono ?_
            rintro e W2 ⟨rfl, hb⟩
            have HB2 := Lib.hid (HB1.out.trans (hb.mono HB1.out.size))
            have HE2 := Lib.hid (HE1.out.kept (grown_below hb none) (by simp))
            clear hb a0 a1 a2 a3 a4 a5
            obtain ⟨a0, a1, a2, a3, a4, a5⟩ := HE2.out.c
            go_wp2_with fail
            go_ret
            exact ⟨by rw [HRf.out]; rfl, HB2.out⟩
          have f3 : decide ((0 : Int) < (nl : Int)) = false := decide_eq_false (by omega)
          have f3n : decide (0 < nl) = false := decide_eq_false (by omega)
          have HN3 : Hid (¬ (((3 : Int) = 5 ∧ nl ≠ 2) ∨ ((3 : Int) = 6 ∧ 4 < nl) ∨ ((3 : Int) ≠ 5 ∧ (3 : Int) ≠ 6 ∧ 0 < nl))) := Lib.hid (by omega)
          clear g3
          by_cases g4 : 0 < nr
          case pos =>
            have HRf : Hid (R = 1) := Lib.hid (HRv.out _ (by rw [HT.out, tyNode, if_neg HN1.out, if_neg HN2.out, if_neg HN3.out, if_pos ⟨by decide, .inl (by rw [← HNr.out]; exact g4)⟩]) (by decide))
            have f4 : decide ((0 : Int) < (nr : Int)) = true := decide_eq_true (by omega)
            have f4n : decide (0 < nr) = true := decide_eq_true (by omega)
            clear g4
            clear HRv HT HR HE HCe HBe HV1e HV2e HN1 HN2 HN3
            go_enter Tryz.func21, Tryz.ntmps21
            go_wp2_with fail
            clear hW1
            refine (HV1.out _).mono ?_
            rintro e w' ⟨rfl, rfl⟩
            go_wp2_with fail
            refine (HV2.out _).mono ?_
            rintro e w' ⟨rfl, rfl⟩
            go_wp2_with fail
            refine (HC3.out _).mono ?_
            rintro e W2 ⟨rfl, hb⟩
            have HB2 := Lib.hid (HB1.out.trans (hb.mono HB1.out.size))
            have HE2 := Lib.hid (HE1.out.kept (grown_below hb none) (by simp))
            clear hb a0 a1 a2 a3 a4 a5
            obtain ⟨a0, a1, a2, a3, a4, a5⟩ := HE2.out.c
            go_wp2_with fail
            go_ret
            exact ⟨by rw [HRf.out]; rfl, HB2.out⟩
          have f4 : decide ((0 : Int) < (nr : Int)) = false := decide_eq_false (by omega)
          have f4n : decide (0 < nr) = false := decide_eq_false (by omega)
          by_cases g5 : tl = 0
          case neg =>
            have HRf : Hid (R = 1) := Lib.hid (HRv.out _ (by rw [HT.out, tyNode, if_neg HN1.out, if_neg HN2.out, if_neg HN3.out, if_pos ⟨by decide, .inr g5⟩]) (by decide))
            have f5 : (tl != 0) = true := by simpa using g5
            clear g4 g5
            clear HRv HT HR HE HCe HBe HV1e HV2e HN1 HN2 HN3
            go_enter Tryz.func21, Tryz.ntmps21
            go_wp2_with fail
            clear hW1
            refine (HV1.out _).mono ?_
            rintro e w' ⟨rfl, rfl⟩
            go_wp2_with fail
            refine (HV2.out _).mono ?_
            rintro e w' ⟨rfl, rfl⟩
            go_wp2_with fail
            refine (HC3.out _).mono ?_
            rintro e W2 ⟨rfl, hb⟩
            have HB2 := Lib.hid (HB1.out.trans (hb.mono HB1.out.size))
            have HE2 := Lib.hid (HE1.out.kept (grown_below hb none) (by simp))
            clear hb a0 a1 a2 a3 a4 a5
            obtain ⟨a0, a1, a2, a3, a4, a5⟩ := HE2.out.c
            go_wp2_with fail
            go_ret
            exact ⟨by rw [HRf.out]; rfl, HB2.out⟩
          have HRl : Hid (R = tysErr l) := Lib.hid (by
            have e : T = 0 := by
              rw [HT.out, tyNode, if_neg HN1.out, if_neg HN2.out, if_neg HN3.out, if_neg (fun h => h.2.elim (fun q => g4 (by rw [HNr.out]; exact q)) (fun q => q g5)), if_neg (by decide)]
            rw [HR.out, if_pos e])
          have f5 : (tl != 0) = false := by simpa using g5
          clear g4 g5
          clear HRv HT HR HE HCe HBe HV1e HV2e HN1 HN2 HN3
          go_enter Tryz.func21, Tryz.ntmps21
          go_wp2_with fail
          clear hW1
          refine (HV1.out _).mono ?_
          rintro e w' ⟨rfl, rfl⟩
          go_wp2_with fail
          refine (HV2.out _).mono ?_
          rintro e w' ⟨rfl, rfl⟩
          go_wp2_with fail
          refine (HC3.out _).mono ?_
          rintro e W2 ⟨rfl, hb⟩
          have HB2 := Lib.hid (HB1.out.trans (hb.mono HB1.out.size))
          have HE2 := Lib.hid (HE1.out.kept (grown_below hb none) (by simp))
          clear hb a0 a1 a2 a3 a4 a5
          obtain ⟨a0, a1, a2, a3, a4, a5⟩ := HE2.out.c
          go_wp2_with fail
          go_loopw [5] (fun i wr => ∃ kk : Nat, kk ≤ nl ∧ i = .int .i64 (kk : Int) ∧ Hid (Below W2.heap.size W2 wr) ∧ Hid (tysErr (l.take kk) = 0)) (fun i _ => nl - (intOf i).toNat)
          case atStart => exact ⟨0, Nat.zero_le _, rfl, Lib.hid (Below.refl _ _), Lib.hid rfl⟩
          case round =>
            obtain ⟨kk, hkk, rfl, hB, hSm⟩ := hrel
            clear a0 a1 a2 a3 a4 a5
            have HBr := Lib.hid (HB2.out.trans (hB.out.mono HB2.out.size))
            have HEr := Lib.hid (HE2.out.kept (grown_below hB.out none) (by simp))
            obtain ⟨_, _, _, a3, _, _⟩ := HEr.out.c
            have j0 : (0 : Int) ≤ (kk : Int) := by omega
            by_cases hkl : kk < nl
            case pos =>
              have hk1 : kk < l.length := by rw [← HNl.out]; exact hkl
              have j1 : (kk : Int) < (nl : Int) := by omega
              obtain ⟨x, hx⟩ : ∃ x, x = l[kk] := ⟨_, rfl⟩
              have hxl : l[kk]? = some x := by rw [hx]; exact List.getElem?_eq_getElem hk1
              obtain ⟨b, off, rfl⟩ := HPl.out.addr (by omega)
              obtain ⟨hbx, k1, m1, s1, X0, p0, c0, X1, p1, c1, t1, hcx⟩ := HPl.out.at hxl
              obtain ⟨f0, f1, f2, f3, f4, f5⟩ := hcx.up hbx HBr.out
              obtain ⟨V, hV⟩ : ∃ V, V = tyErr x := ⟨_, rfl⟩
              have HX : Hid (Calls Tryz.prog 21 #[.agg #[.int .i64 k1, .int .i64 m1, .string s1, .slice X0 p0 c0, .slice X1 p1 c1, .int .i64 t1]] wr fun e w' => e = .returned (.int .i64 V) ∧ Below wr.heap.size wr w') := Lib.hid (by
                rw [hV]
                exact HIH.out x (List.mem_of_getElem? hxl) _ wr ((hcx.rep.weaken (Q := fun _ => True) (fun _ _ => trivial)).keep (Same.of_below HBr.out)))
              have HTk : Hid (V = 0 → tysErr (l.take (kk + 1)) = 0) := Lib.hid (fun h => by rw [take_succ_of hk1, tysErr_snoc _ _ hSm.out, ← hx, ← hV, h])
              have HBad : Hid (V ≠ 0 → R = V) := Lib.hid (fun h => by rw [HRl.out, tysErr_at l kk x hSm.out hxl (by rw [← hV]; exact h), hV])
              clear hx hxl hcx hV hbx
              by_cases q0 : V = 0
              case neg =>
                have HRf := Lib.hid (HBad.out q0)
                have f9 : (V != 0) = true := by simpa using q0
                clear q0 HBad HTk
                go_wp2_with fail
                refine HX.out.mono ?_
                rintro e w' ⟨rfl, hb⟩
                have HBn := Lib.hid (hB.out.trans (hb.mono hB.out.size))
                clear hb a3
                go_wp2_with fail
                go_ret
                exact ⟨by rw [HRf.out]; rfl, HB2.out.trans (HBn.out.mono HB2.out.size)⟩
              have HT2 := Lib.hid (HTk.out q0)
              subst q0
              clear HBad HTk
              go_wp2_with fail
              refine HX.out.mono ?_
              rintro e w' ⟨rfl, hb⟩
              have HBn := Lib.hid (hB.out.trans (hb.mono hB.out.size))
              clear hb a3
              go_wp2_with fail
              go_roundw
              case rel => exact ⟨kk + 1, by omega, by go_num, HBn, HT2⟩
              case measure => simp [intOf]; omega
            case neg =>
              obtain rfl : kk = nl := by omega
              have HRf : Hid (R = 0) := Lib.hid (by have h := hSm.out; rw [List.take_of_length_le (by rw [← HNl.out]; exact Nat.le_refl _)] at h; rw [HRl.out, h])
              go_wp2_with fail
              go_ret
              exact ⟨by rw [HRf.out]; rfl, HBr.out⟩
      ·
        have HC4 : Hid (∀ wx, Calls Tryz.prog 63 #[.string S, .int .i64 0] wx fun e w' => e = .returned (.bool C) ∧ Below wx.heap.size wx w') := HC
        clear HC
        obtain rfl : n = 0 := by
          by_cases h : n = 0
          · exact h
          · exact absurd ⟨by decide, h⟩ g0
        clear g0
        cases C with
        | false =>
          have HRf : Hid (R = 4) := Lib.hid (HRv.out _ (by rw [HT.out, tyNode, if_neg HN1.out, if_pos (.inl HCe.out.symm)]) (by decide))
          clear HRv HT HR HE HCe HBe HV1e HV2e HN1
          go_enter Tryz.func21, Tryz.ntmps21
          go_wp2_with fail
          clear hW1
          refine (HV1.out _).mono ?_
          rintro e w' ⟨rfl, rfl⟩
          go_wp2_with fail
          refine (HV2.out _).mono ?_
          rintro e w' ⟨rfl, rfl⟩
          go_wp2_with fail
          refine (HC4.out _).mono ?_
          rintro e W2 ⟨rfl, hb⟩
          have HB2 := Lib.hid (HB1.out.trans (hb.mono HB1.out.size))
          have HE2 := Lib.hid (HE1.out.kept (grown_below hb none) (by simp))
          clear hb a0 a1 a2 a3 a4 a5
          obtain ⟨a0, a1, a2, a3, a4, a5⟩ := HE2.out.c
          go_wp2_with fail
          go_ret
          exact ⟨by rw [HRf.out]; rfl, HB2.out⟩
        | true =>
          have HN2 : Hid (¬ (rCls (tyCls 4) s = false ∨ ((4 : Int) = 6 ∧ biT.contains s = true))) := Lib.hid (by
            rintro (h | h)
            · rw [← HCe.out] at h; cases h
            · exact absurd h.1 (by decide))
          by_cases g3 : 0 < nl
          case pos =>
            have HRf : Hid (R = 7) := Lib.hid (HRv.out _ (by rw [HT.out, tyNode, if_neg HN1.out, if_neg HN2.out, if_pos (by omega)]) (by decide))
            have f3 : decide ((0 : Int) < (nl : Int)) = true := decide_eq_true (by omega)
            have f3n : decide (0 < nl) = true := decide_eq_true (by omega)
            clear g3
            clear HRv HT HR HE HCe HBe HV1e HV2e HN1 HN2
            go_enter Tryz.func21, Tryz.ntmps21
            go_wp2_with fail
            clear hW1
            refine (HV1.out _).mono ?_
            rintro e w' ⟨rfl, rfl⟩
            go_wp2_with fail
            refine (HV2.out _).mono ?_
            rintro e w' ⟨rfl, rfl⟩
            go_wp2_with fail
            refine (HC4.out _).mono ?_
            rintro e W2 ⟨rfl, hb⟩
            have HB2 := Lib.hid (HB1.out.trans (hb.mono HB1.out.size))
            have HE2 := Lib.hid (HE1.out.kept (grown_below hb none) (by simp))
            clear hb a0 a1 a2 a3 a4 a5
            obtain ⟨a0, a1, a2, a3, a4, a5⟩ := HE2.out.c
            go_wp2_with fail
            go_ret
            exact ⟨by rw [HRf.out]; rfl, HB2.out⟩
          have f3 : decide ((0 : Int) < (nl : Int)) = false := decide_eq_false (by omega)
          have f3n : decide (0 < nl) = false := decide_eq_false (by omega)
          have HN3 : Hid (¬ (((4 : Int) = 5 ∧ nl ≠ 2) ∨ ((4 : Int) = 6 ∧ 4 < nl) ∨ ((4 : Int) ≠ 5 ∧ (4 : Int) ≠ 6 ∧ 0 < nl))) := Lib.hid (by omega)
          clear g3
          by_cases g4 : 0 < nr
          case pos =>
            have HRf : Hid (R = 1) := Lib.hid (HRv.out _ (by rw [HT.out, tyNode, if_neg HN1.out, if_neg HN2.out, if_neg HN3.out, if_pos ⟨by decide, .inl (by rw [← HNr.out]; exact g4)⟩]) (by decide))
            have f4 : decide ((0 : Int) < (nr : Int)) = true := decide_eq_true (by omega)
            have f4n : decide (0 < nr) = true := decide_eq_true (by omega)
            clear g4
            clear HRv HT HR HE HCe HBe HV1e HV2e HN1 HN2 HN3
            go_enter Tryz.func21, Tryz.ntmps21
            go_wp2_with fail
            clear hW1
            refine (HV1.out _).mono ?_
            rintro e w' ⟨rfl, rfl⟩
            go_wp2_with fail
            refine (HV2.out _).mono ?_
            rintro e w' ⟨rfl, rfl⟩
            go_wp2_with fail
            refine (HC4.out _).mono ?_
            rintro e W2 ⟨rfl, hb⟩
            have HB2 := Lib.hid (HB1.out.trans (hb.mono HB1.out.size))
            have HE2 := Lib.hid (HE1.out.kept (grown_below hb none) (by simp))
            clear hb a0 a1 a2 a3 a4 a5
            obtain ⟨a0, a1, a2, a3, a4, a5⟩ := HE2.out.c
            go_wp2_with fail
            go_ret
            exact ⟨by rw [HRf.out]; rfl, HB2.out⟩
          have f4 : decide ((0 : Int) < (nr : Int)) = false := decide_eq_false (by omega)
          have f4n : decide (0 < nr) = false := decide_eq_false (by omega)
          by_cases g5 : tl = 0
          case neg =>
            have HRf : Hid (R = 1) := Lib.hid (HRv.out _ (by rw [HT.out, tyNode, if_neg HN1.out, if_neg HN2.out, if_neg HN3.out, if_pos ⟨by decide, .inr g5⟩]) (by decide))
            have f5 : (tl != 0) = true := by simpa using g5
            clear g4 g5
            clear HRv HT HR HE HCe HBe HV1e HV2e HN1 HN2 HN3
            go_enter Tryz.func21, Tryz.ntmps21
            go_wp2_with fail
            clear hW1
            refine (HV1.out _).mono ?_
            rintro e w' ⟨rfl, rfl⟩
            go_wp2_with fail
            refine (HV2.out _).mono ?_
            rintro e w' ⟨rfl, rfl⟩
            go_wp2_with fail
            refine (HC4.out _).mono ?_
            rintro e W2 ⟨rfl, hb⟩
            have HB2 := Lib.hid (HB1.out.trans (hb.mono HB1.out.size))
            have HE2 := Lib.hid (HE1.out.kept (grown_below hb none) (by simp))
            clear hb a0 a1 a2 a3 a4 a5
            obtain ⟨a0, a1, a2, a3, a4, a5⟩ := HE2.out.c
            go_wp2_with fail
            go_ret
            exact ⟨by rw [HRf.out]; rfl, HB2.out⟩
          have HRl : Hid (R = tysErr l) := Lib.hid (by
            have e : T = 0 := by
              rw [HT.out, tyNode, if_neg HN1.out, if_neg HN2.out, if_neg HN3.out, if_neg (fun h => h.2.elim (fun q => g4 (by rw [HNr.out]; exact q)) (fun q => q g5)), if_neg (by decide)]
            rw [HR.out, if_pos e])
          have f5 : (tl != 0) = false := by simpa using g5
          clear g4 g5
          clear HRv HT HR HE HCe HBe HV1e HV2e HN1 HN2 HN3
          go_enter Tryz.func21, Tryz.ntmps21
          go_wp2_with fail
          clear hW1
          refine (HV1.out _).mono ?_
          rintro e w' ⟨rfl, rfl⟩
          go_wp2_with fail
          refine (HV2.out _).mono ?_
          rintro e w' ⟨rfl, rfl⟩
          go_wp2_with fail
          refine (HC4.out _).mono ?_
          rintro e W2 ⟨rfl, hb⟩
          have HB2 := Lib.hid (HB1.out.trans (hb.mono HB1.out.size))
          have HE2 := Lib.hid (HE1.out.kept (grown_below hb none) (by simp))
          clear hb a0 a1 a2 a3 a4 a5
          obtain ⟨a0, a1, a2, a3, a4, a5⟩ := HE2.out.c
          go_wp2_with fail
          go_loopw [5] (fun i wr => ∃ kk : Nat, kk ≤ nl ∧ i = .int .i64 (kk : Int) ∧ Hid (Below W2.heap.size W2 wr) ∧ Hid (tysErr (l.take kk) = 0)) (fun i _ => nl - (intOf i).toNat)
          case atStart => exact ⟨0, Nat.zero_le _, rfl, Lib.hid (Below.refl _ _), Lib.hid rfl⟩
          case round =>
            obtain ⟨kk, hkk, rfl, hB, hSm⟩ := hrel
            clear a0 a1 a2 a3 a4 a5
            have HBr := Lib.hid (HB2.out.trans (hB.out.mono HB2.out.size))
            have HEr := Lib.hid (HE2.out.kept (grown_below hB.out none) (by simp))
            obtain ⟨_, _, _, a3, _, _⟩ := HEr.out.c
            have j0 : (0 : Int) ≤ (kk : Int) := by omega
            by_cases hkl : kk < nl
            case pos =>
              have hk1 : kk < l.length := by rw [← HNl.out]; exact hkl
              have j1 : (kk : Int) < (nl : Int) := by omega
              obtain ⟨x, hx⟩ : ∃ x, x = l[kk] := ⟨_, rfl⟩
              have hxl : l[kk]? = some x := by rw [hx]; exact List.getElem?_eq_getElem hk1
              obtain ⟨b, off, rfl⟩ := HPl.out.addr (by omega)
              obtain ⟨hbx, k1, m1, s1, X0, p0, c0, X1, p1, c1, t1, hcx⟩ := HPl.out.at hxl
              obtain ⟨f0, f1, f2, f3, f4, f5⟩ := hcx.up hbx HBr.out
              obtain ⟨V, hV⟩ : ∃ V, V = tyErr x := ⟨_, rfl⟩
              have HX : Hid (Calls Tryz.prog 21 #[.agg #[.int .i64 k1, .int .i64 m1, .string s1, .slice X0 p0 c0, .slice X1 p1 c1, .int .i64 t1]] wr fun e w' => e = .returned (.int .i64 V) ∧ Below wr.heap.size wr w') := Lib.hid (by
                rw [hV]
                exact HIH.out x (List.mem_of_getElem? hxl) _ wr ((hcx.rep.weaken (Q := fun _ => True) (fun _ _ => trivial)).keep (Same.of_below HBr.out)))
              have HTk : Hid (V = 0 → tysErr (l.take (kk + 1)) = 0) := Lib.hid (fun h => by rw [take_succ_of hk1, tysErr_snoc _ _ hSm.out, ← hx, ← hV, h])
              have HBad : Hid (V ≠ 0 → R = V) := Lib.hid (fun h => by rw [HRl.out, tysErr_at l kk x hSm.out hxl (by rw [← hV]; exact h), hV])
              clear hx hxl hcx hV hbx
              by_cases q0 : V = 0
              case neg =>
                have HRf := Lib.hid (HBad.out q0)
                have f9 : (V != 0) = true := by simpa using q0
                clear q0 HBad HTk
                go_wp2_with fail
                refine HX.out.mono ?_
                rintro e w' ⟨rfl, hb⟩
                have HBn := Lib.hid (hB.out.trans (hb.mono hB.out.size))
                clear hb a3
                go_wp2_with fail
                go_ret
                exact ⟨by rw [HRf.out]; rfl, HB2.out.trans (HBn.out.mono HB2.out.size)⟩
              have HT2 := Lib.hid (HTk.out q0)
              subst q0
              clear HBad HTk
              go_wp2_with fail
              refine HX.out.mono ?_
              rintro e w' ⟨rfl, hb⟩
              have HBn := Lib.hid (hB.out.trans (hb.mono hB.out.size))
              clear hb a3
              go_wp2_with fail
              go_roundw
              case rel => exact ⟨kk + 1, by omega, by go_num, HBn, HT2⟩
              case measure => simp [intOf]; omega
            case neg =>
              obtain rfl : kk = nl := by omega
              have HRf : Hid (R = 0) := Lib.hid (by have h := hSm.out; rw [List.take_of_length_le (by rw [← HNl.out]; exact Nat.le_refl _)] at h; rw [HRl.out, h])
              go_wp2_with fail
              go_ret
              exact ⟨by rw [HRf.out]; rfl, HBr.out⟩
      ·
        have HC5 : Hid (∀ wx, Calls Tryz.prog 63 #[.string S, .int .i64 0] wx fun e w' => e = .returned (.bool C) ∧ Below wx.heap.size wx w') := HC
        clear HC
        obtain rfl : n = 0 := by
          by_cases h : n = 0
          · exact h
          · exact absurd ⟨by decide, h⟩ g0
        clear g0
        cases C with
        | false =>
          have HRf : Hid (R = 4) := Lib.hid (HRv.out _ (by rw [HT.out, tyNode, if_neg HN1.out, if_pos (.inl HCe.out.symm)]) (by decide))
          clear HRv HT HR HE HCe HBe HV1e HV2e HN1
          go_enter Tryz.func21, Tryz.ntmps21
          go_wp2_with fail
          clear hW1
          refine (HV1.out _).mono ?_
          rintro e w' ⟨rfl, rfl⟩
          go_wp2_with fail
          refine (HV2.out _).mono ?_
          rintro e w' ⟨rfl, rfl⟩
          go_wp2_with fail
          refine (HC5.out _).mono ?_
          rintro e W2 ⟨rfl, hb⟩
          have HB2 := Lib.hid (HB1.out.trans (hb.mono HB1.out.size))
          have HE2 := Lib.hid (HE1.out.kept (grown_below hb none) (by simp))
          clear hb a0 a1 a2 a3 a4 a5
          obtain ⟨a0, a1, a2, a3, a4, a5⟩ := HE2.out.c
          go_wp2_with fail
          go_ret
          exact ⟨by rw [HRf.out]; rfl, HB2.out⟩
        | true =>
          have HN2 : Hid (¬ (rCls (tyCls 5) s = false ∨ ((5 : Int) = 6 ∧ biT.contains s = true))) := Lib.hid (by
            rintro (h | h)
            · rw [← HCe.out] at h; cases h
            · exact absurd h.1 (by decide))
          by_cases g3 : nl ≠ 2
          case pos =>
            have HRf : Hid (R = 7) := Lib.hid (HRv.out _ (by rw [HT.out, tyNode, if_neg HN1.out, if_neg HN2.out, if_pos (by omega)]) (by decide))
            have f3 : ((nl : Int) != 2) = true := by simp; omega
            clear g3
            clear HRv HT HR HE HCe HBe HV1e HV2e HN1 HN2
            go_enter Tryz.func21, Tryz.ntmps21
            go_wp2_with fail
            clear hW1
            refine (HV1.out _).mono ?_
            rintro e w' ⟨rfl, rfl⟩
            go_wp2_with fail
            refine (HV2.out _).mono ?_
            rintro e w' ⟨rfl, rfl⟩
            go_wp2_with fail
            refine (HC5.out _).mono ?_
            rintro e W2 ⟨rfl, hb⟩
            have HB2 := Lib.hid (HB1.out.trans (hb.mono HB1.out.size))
            have HE2 := Lib.hid (HE1.out.kept (grown_below hb none) (by simp))
            clear hb a0 a1 a2 a3 a4 a5
            obtain ⟨a0, a1, a2, a3, a4, a5⟩ := HE2.out.c
            go_wp2_with fail
            go_ret
            exact ⟨by rw [HRf.out]; rfl, HB2.out⟩
          have f3 : ((nl : Int) != 2) = false := by simp; omega
          have HN3 : Hid (¬ (((5 : Int) = 5 ∧ nl ≠ 2) ∨ ((5 : Int) = 6 ∧ 4 < nl) ∨ ((5 : Int) ≠ 5 ∧ (5 : Int) ≠ 6 ∧ 0 < nl))) := Lib.hid (by omega)
          clear g3
          have hTE : T = E := by rw [HT.out, tyNode, if_neg HN1.out, if_neg HN2.out, if_neg HN3.out, if_neg (fun h => h.1 rfl), if_pos rfl, HE.out]
          have HTE := Lib.hid hTE
          clear hTE
          by_cases g4 : E = 0
          case neg =>
            have HRf : Hid (R = E) := Lib.hid (by rw [HR.out, HTE.out, if_neg g4])
            have f4 : (E != 0) = true := by simpa using g4
            clear g4
            clear HRv HT HR HE HCe HBe HV1e HV2e HN1 HN2 HN3 HTE
            go_enter Tryz.func21, Tryz.ntmps21
            go_wp2_with fail
            clear hW1
            refine (HV1.out _).mono ?_
            rintro e w' ⟨rfl, rfl⟩
            go_wp2_with fail
            refine (HV2.out _).mono ?_
            rintro e w' ⟨rfl, rfl⟩
            go_wp2_with fail
            refine (HC5.out _).mono ?_
            rintro e W2 ⟨rfl, hb⟩
            have HB2 := Lib.hid (HB1.out.trans (hb.mono HB1.out.size))
            have HE2 := Lib.hid (HE1.out.kept (grown_below hb none) (by simp))
            clear hb a0 a1 a2 a3 a4 a5
            obtain ⟨a0, a1, a2, a3, a4, a5⟩ := HE2.out.c
            go_wp2_with fail
            refine (HRow.out _ HB2.out).mono ?_
            rintro e W3 ⟨rfl, hb⟩
            have HB3 := Lib.hid (HB2.out.trans (hb.mono HB2.out.size))
            have HE3 := Lib.hid (HE2.out.kept (grown_below hb none) (by simp))
            clear hb a0 a1 a2 a3 a4 a5
            obtain ⟨a0, a1, a2, a3, a4, a5⟩ := HE3.out.c
            go_wp2_with fail
            go_ret
            exact ⟨by rw [HRf.out]; rfl, HB3.out⟩
          have HRl : Hid (R = tysErr l) := Lib.hid (by rw [HR.out, HTE.out, if_pos g4])
          clear HTE
          clear HRv HT HR HE HCe HBe HV1e HV2e HN1 HN2 HN3
          subst g4
          go_enter Tryz.func21, Tryz.ntmps21
          go_wp2_with fail
          clear hW1
          refine (HV1.out _).mono ?_
          rintro e w' ⟨rfl, rfl⟩
          go_wp2_with fail
          refine (HV2.out _).mono ?_
          rintro e w' ⟨rfl, rfl⟩
          go_wp2_with fail
          refine (HC5.out _).mono ?_
          rintro e W2 ⟨rfl, hb⟩
          have HB2 := Lib.hid (HB1.out.trans (hb.mono HB1.out.size))
          have HE2 := Lib.hid (HE1.out.kept (grown_below hb none) (by simp))
          clear hb a0 a1 a2 a3 a4 a5
          obtain ⟨a0, a1, a2, a3, a4, a5⟩ := HE2.out.c
          go_wp2_with fail
          refine (HRow.out _ HB2.out).mono ?_
          rintro e W3 ⟨rfl, hb⟩
          have HB3 := Lib.hid (HB2.out.trans (hb.mono HB2.out.size))
          have HE3 := Lib.hid (HE2.out.kept (grown_below hb none) (by simp))
          clear hb a0 a1 a2 a3 a4 a5
          obtain ⟨a0, a1, a2, a3, a4, a5⟩ := HE3.out.c
          go_wp2_with fail
          go_loopw [5] (fun i wr => ∃ kk : Nat, kk ≤ nl ∧ i = .int .i64 (kk : Int) ∧ Hid (Below W3.heap.size W3 wr) ∧ Hid (tysErr (l.take kk) = 0)) (fun i _ => nl - (intOf i).toNat)
          case atStart => exact ⟨0, Nat.zero_le _, rfl, Lib.hid (Below.refl _ _), Lib.hid rfl⟩
          case round =>
            obtain ⟨kk, hkk, rfl, hB, hSm⟩ := hrel
            clear a0 a1 a2 a3 a4 a5
            have HBr := Lib.hid (HB3.out.trans (hB.out.mono HB3.out.size))
            have HEr := Lib.hid (HE3.out.kept (grown_below hB.out none) (by simp))
            obtain ⟨_, _, _, a3, _, _⟩ := HEr.out.c
            have j0 : (0 : Int) ≤ (kk : Int) := by omega
            by_cases hkl : kk < nl
            case pos =>
              have hk1 : kk < l.length := by rw [← HNl.out]; exact hkl
              have j1 : (kk : Int) < (nl : Int) := by omega
              obtain ⟨x, hx⟩ : ∃ x, x = l[kk] := ⟨_, rfl⟩
              have hxl : l[kk]? = some x := by rw [hx]; exact List.getElem?_eq_getElem hk1
              obtain ⟨b, off, rfl⟩ := HPl.out.addr (by omega)
              obtain ⟨hbx, k1, m1, s1, X0, p0, c0, X1, p1, c1, t1, hcx⟩ := HPl.out.at hxl
              obtain ⟨f0, f1, f2, f3, f4, f5⟩ := hcx.up hbx HBr.out
              obtain ⟨V, hV⟩ : ∃ V, V = tyErr x := ⟨_, rfl⟩
              have HX : Hid (Calls Tryz.prog 21 #[.agg #[.int .i64 k1, .int .i64 m1, .string s1, .slice X0 p0 c0, .slice X1 p1 c1, .int .i64 t1]] wr fun e w' => e = .returned (.int .i64 V) ∧ Below wr.heap.size wr w') := Lib.hid (by
                rw [hV]
                exact HIH.out x (List.mem_of_getElem? hxl) _ wr ((hcx.rep.weaken (Q := fun _ => True) (fun _ _ => trivial)).keep (Same.of_below HBr.out)))
              have HTk : Hid (V = 0 → tysErr (l.take (kk + 1)) = 0) := Lib.hid (fun h => by rw [take_succ_of hk1, tysErr_snoc _ _ hSm.out, ← hx, ← hV, h])
              have HBad : Hid (V ≠ 0 → R = V) := Lib.hid (fun h => by rw [HRl.out, tysErr_at l kk x hSm.out hxl (by rw [← hV]; exact h), hV])
              clear hx hxl hcx hV hbx
              by_cases q0 : V = 0
              case neg =>
                have HRf := Lib.hid (HBad.out q0)
                have f9 : (V != 0) = true := by simpa using q0
                clear q0 HBad HTk
                go_wp2_with fail
                refine HX.out.mono ?_
                rintro e w' ⟨rfl, hb⟩
                have HBn := Lib.hid (hB.out.trans (hb.mono hB.out.size))
                clear hb a3
                go_wp2_with fail
                go_ret
                exact ⟨by rw [HRf.out]; rfl, HB3.out.trans (HBn.out.mono HB3.out.size)⟩
              have HT2 := Lib.hid (HTk.out q0)
              subst q0
              clear HBad HTk
              go_wp2_with fail
              refine HX.out.mono ?_
              rintro e w' ⟨rfl, hb⟩
              have HBn := Lib.hid (hB.out.trans (hb.mono hB.out.size))
              clear hb a3
              go_wp2_with fail
              go_roundw
              case rel => exact ⟨kk + 1, by omega, by go_num, HBn, HT2⟩
              case measure => simp [intOf]; omega
            case neg =>
              obtain rfl : kk = nl := by omega
              have HRf : Hid (R = 0) := Lib.hid (by have h := hSm.out; rw [List.take_of_length_le (by rw [← HNl.out]; exact Nat.le_refl _)] at h; rw [HRl.out, h])
              go_wp2_with fail
              go_ret
              exact ⟨by rw [HRf.out]; rfl, HBr.out⟩
      ·
        have HC6 : Hid (∀ wx, Calls Tryz.prog 63 #[.string S, .int .i64 2] wx fun e w' => e = .returned (.bool C) ∧ Below wx.heap.size wx w') := HC
        clear HC
        obtain rfl : n = 0 := by
          by_cases h : n = 0
          · exact h
          · exact absurd ⟨by decide, h⟩ g0
        clear g0
        cases C with
        | false =>
          have HRf : Hid (R = 4) := Lib.hid (HRv.out _ (by rw [HT.out, tyNode, if_neg HN1.out, if_pos (.inl HCe.out.symm)]) (by decide))
          clear HRv HT HR HE HCe HBe HV1e HV2e HN1
          go_enter Tryz.func21, Tryz.ntmps21
          go_wp2_with fail
          clear hW1
          refine (HV1.out _).mono ?_
          rintro e w' ⟨rfl, rfl⟩
          go_wp2_with fail
          refine (HV2.out _).mono ?_
          rintro e w' ⟨rfl, rfl⟩
          go_wp2_with fail
          refine (HC6.out _).mono ?_
          rintro e W2 ⟨rfl, hb⟩
          have HB2 := Lib.hid (HB1.out.trans (hb.mono HB1.out.size))
          have HE2 := Lib.hid (HE1.out.kept (grown_below hb none) (by simp))
          clear hb a0 a1 a2 a3 a4 a5
          obtain ⟨a0, a1, a2, a3, a4, a5⟩ := HE2.out.c
          go_wp2_with fail
          go_ret
          exact ⟨by rw [HRf.out]; rfl, HB2.out⟩
        | true =>
          cases B with
          | true =>
            have HRf : Hid (R = 4) := Lib.hid (HRv.out _ (by rw [HT.out, tyNode, if_neg HN1.out, if_pos (.inr ⟨rfl, HBe.out.symm⟩)]) (by decide))
            clear HRv HT HR HE HCe HBe HV1e HV2e HN1
            go_enter Tryz.func21, Tryz.ntmps21
            go_wp2_with fail
            clear hW1
            refine (HV1.out _).mono ?_
            rintro e w' ⟨rfl, rfl⟩
            go_wp2_with fail
            refine (HV2.out _).mono ?_
            rintro e w' ⟨rfl, rfl⟩
            go_wp2_with fail
            refine (HC6.out _).mono ?_
            rintro e W2 ⟨rfl, hb⟩
            have HB2 := Lib.hid (HB1.out.trans (hb.mono HB1.out.size))
            have HE2 := Lib.hid (HE1.out.kept (grown_below hb none) (by simp))
            clear hb a0 a1 a2 a3 a4 a5
            obtain ⟨a0, a1, a2, a3, a4, a5⟩ := HE2.out.c
            go_wp2_with fail
            refine (HBi.out _).mono ?_
            rintro e W3 ⟨rfl, hb⟩
            have HB3 := Lib.hid (HB2.out.trans (hb.mono HB2.out.size))
            have HE3 := Lib.hid (HE2.out.kept (grown_below hb none) (by simp))
            clear hb a0 a1 a2 a3 a4 a5
            obtain ⟨a0, a1, a2, a3, a4, a5⟩ := HE3.out.c
            go_wp2_with fail
            go_ret
            exact ⟨by rw [HRf.out]; rfl, HB3.out⟩
          | false =>
            have HN2 : Hid (¬ (rCls (tyCls 6) s = false ∨ ((6 : Int) = 6 ∧ biT.contains s = true))) := Lib.hid (by
              rintro (h | h)
              · rw [← HCe.out] at h; cases h
              · have h2 := h.2; rw [← HBe.out] at h2; cases h2)
            by_cases g3 : 4 < nl
            case pos =>
              have HRf : Hid (R = 7) := Lib.hid (HRv.out _ (by rw [HT.out, tyNode, if_neg HN1.out, if_neg HN2.out, if_pos (by omega)]) (by decide))
              have f3 : decide ((4 : Int) < (nl : Int)) = true := decide_eq_true (by omega)
              clear g3
              clear HRv HT HR HE HCe HBe HV1e HV2e HN1 HN2
              go_enter Tryz.func21, Tryz.ntmps21
              go_wp2_with fail
              clear hW1
              refine (HV1.out _).mono ?_
              rintro e w' ⟨rfl, rfl⟩
              go_wp2_with fail
              refine (HV2.out _).mono ?_
              rintro e w' ⟨rfl, rfl⟩
              go_wp2_with fail
              refine (HC6.out _).mono ?_
              rintro e W2 ⟨rfl, hb⟩
              have HB2 := Lib.hid (HB1.out.trans (hb.mono HB1.out.size))
              have HE2 := Lib.hid (HE1.out.kept (grown_below hb none) (by simp))
              clear hb a0 a1 a2 a3 a4 a5
              obtain ⟨a0, a1, a2, a3, a4, a5⟩ := HE2.out.c
              go_wp2_with fail
              refine (HBi.out _).mono ?_
              rintro e W3 ⟨rfl, hb⟩
              have HB3 := Lib.hid (HB2.out.trans (hb.mono HB2.out.size))
              have HE3 := Lib.hid (HE2.out.kept (grown_below hb none) (by simp))
              clear hb a0 a1 a2 a3 a4 a5
              obtain ⟨a0, a1, a2, a3, a4, a5⟩ := HE3.out.c
              go_wp2_with fail
              go_ret
              exact ⟨by rw [HRf.out]; rfl, HB3.out⟩
            have f3 : decide ((4 : Int) < (nl : Int)) = false := decide_eq_false (by omega)
            have HN3 : Hid (¬ (((6 : Int) = 5 ∧ nl ≠ 2) ∨ ((6 : Int) = 6 ∧ 4 < nl) ∨ ((6 : Int) ≠ 5 ∧ (6 : Int) ≠ 6 ∧ 0 < nl))) := Lib.hid (by omega)
            clear g3
            by_cases g4 : 0 < nr
            case pos =>
              have HRf : Hid (R = 1) := Lib.hid (HRv.out _ (by rw [HT.out, tyNode, if_neg HN1.out, if_neg HN2.out, if_neg HN3.out, if_pos ⟨by decide, .inl (by rw [← HNr.out]; exact g4)⟩]) (by decide))
              have f4 : decide ((0 : Int) < (nr : Int)) = true := decide_eq_true (by omega)
              have f4n : decide (0 < nr) = true := decide_eq_true (by omega)
              clear g4
              clear HRv HT HR HE HCe HBe HV1e HV2e HN1 HN2 HN3
              go_enter Tryz.func21, Tryz.ntmps21
              go_wp2_with fail
              clear hW1
              refine (HV1.out _).mono ?_
              rintro e w' ⟨rfl, rfl⟩
              go_wp2_with fail
              refine (HV2.out _).mono ?_
              rintro e w' ⟨rfl, rfl⟩
              go_wp2_with fail
              refine (HC6.out _).mono ?_
              rintro e W2 ⟨rfl, hb⟩
              have HB2 := Lib.hid (HB1.out.trans (hb.mono HB1.out.size))
              have HE2 := Lib.hid (HE1.out.kept (grown_below hb none) (by simp))
              clear hb a0 a1 a2 a3 a4 a5
              obtain ⟨a0, a1, a2, a3, a4, a5⟩ := HE2.out.c
              go_wp2_with fail
              refine (HBi.out _).mono ?_
              rintro e W3 ⟨rfl, hb⟩
              have HB3 := Lib.hid (HB2.out.trans (hb.mono HB2.out.size))
              have HE3 := Lib.hid (HE2.out.kept (grown_below hb none) (by simp))
              clear hb a0 a1 a2 a3 a4 a5
              obtain ⟨a0, a1, a2, a3, a4, a5⟩ := HE3.out.c
              go_wp2_with fail
              go_ret
              exact ⟨by rw [HRf.out]; rfl, HB3.out⟩
            have f4 : decide ((0 : Int) < (nr : Int)) = false := decide_eq_false (by omega)
            have f4n : decide (0 < nr) = false := decide_eq_false (by omega)
            by_cases g5 : tl = 0
            case neg =>
              have HRf : Hid (R = 1) := Lib.hid (HRv.out _ (by rw [HT.out, tyNode, if_neg HN1.out, if_neg HN2.out, if_neg HN3.out, if_pos ⟨by decide, .inr g5⟩]) (by decide))
              have f5 : (tl != 0) = true := by simpa using g5
              clear g4 g5
              clear HRv HT HR HE HCe HBe HV1e HV2e HN1 HN2 HN3
              go_enter Tryz.func21, Tryz.ntmps21
              go_wp2_with fail
              clear hW1
              refine (HV1.out _).mono ?_
              rintro e w' ⟨rfl, rfl⟩
              go_wp2_with fail
              refine (HV2.out _).mono ?_
              rintro e w' ⟨rfl, rfl⟩
              go_wp2_with fail
              refine (HC6.out _).mono ?_
              rintro e W2 ⟨rfl, hb⟩
              have HB2 := Lib.hid (HB1.out.trans (hb.mono HB1.out.size))
              have HE2 := Lib.hid (HE1.out.kept (grown_below hb none) (by simp))
              clear hb a0 a1 a2 a3 a4 a5
              obtain ⟨a0, a1, a2, a3, a4, a5⟩ := HE2.out.c
              go_wp2_with fail
              refine (HBi.out _).mono ?_
              rintro e W3 ⟨rfl, hb⟩
              have HB3 := Lib.hid (HB2.out.trans (hb.mono HB2.out.size))
              have HE3 := Lib.hid (HE2.out.kept (grown_below hb none) (by simp))
              clear hb a0 a1 a2 a3 a4 a5
              obtain ⟨a0, a1, a2, a3, a4, a5⟩ := HE3.out.c
              go_wp2_with fail
              go_ret
              exact ⟨by rw [HRf.out]; rfl, HB3.out⟩
            have HRl : Hid (R = tysErr l) := Lib.hid (by
              have e : T = 0 := by
                rw [HT.out, tyNode, if_neg HN1.out, if_neg HN2.out, if_neg HN3.out, if_neg (fun h => h.2.elim (fun q => g4 (by rw [HNr.out]; exact q)) (fun q => q g5)), if_neg (by decide)]
              rw [HR.out, if_pos e])
            have f5 : (tl != 0) = false := by simpa using g5
            clear g4 g5
            clear HRv HT HR HE HCe HBe HV1e HV2e HN1 HN2 HN3
            go_enter Tryz.func21, Tryz.ntmps21
            go_wp2_with fail
            clear hW1
            refine (HV1.out _).mono ?_
            rintro e w' ⟨rfl, rfl⟩
            go_wp2_with fail
            refine (HV2.out _).mono ?_
            rintro e w' ⟨rfl, rfl⟩
            go_wp2_with fail
            refine (HC6.out _).mono ?_
            rintro e W2 ⟨rfl, hb⟩
            have HB2 := Lib.hid (HB1.out.trans (hb.mono HB1.out.size))
            have HE2 := Lib.hid (HE1.out.kept (grown_below hb none) (by simp))
            clear hb a0 a1 a2 a3 a4 a5
            obtain ⟨a0, a1, a2, a3, a4, a5⟩ := HE2.out.c
            go_wp2_with fail
            refine (HBi.out _).mono ?_
            rintro e W3 ⟨rfl, hb⟩
            have HB3 := Lib.hid (HB2.out.trans (hb.mono HB2.out.size))
            have HE3 := Lib.hid (HE2.out.kept (grown_below hb none) (by simp))
            clear hb a0 a1 a2 a3 a4 a5
            obtain ⟨a0, a1, a2, a3, a4, a5⟩ := HE3.out.c
            go_wp2_with fail
            go_loopw [5] (fun i wr => ∃ kk : Nat, kk ≤ nl ∧ i = .int .i64 (kk : Int) ∧ Hid (Below W3.heap.size W3 wr) ∧ Hid (tysErr (l.take kk) = 0)) (fun i _ => nl - (intOf i).toNat)
            case atStart => exact ⟨0, Nat.zero_le _, rfl, Lib.hid (Below.refl _ _), Lib.hid rfl⟩
            case round =>
              obtain ⟨kk, hkk, rfl, hB, hSm⟩ := hrel
              clear a0 a1 a2 a3 a4 a5
              have HBr := Lib.hid (HB3.out.trans (hB.out.mono HB3.out.size))
              have HEr := Lib.hid (HE3.out.kept (grown_below hB.out none) (by simp))
              obtain ⟨_, _, _, a3, _, _⟩ := HEr.out.c
              have j0 : (0 : Int) ≤ (kk : Int) := by omega
              by_cases hkl : kk < nl
              case pos =>
                have hk1 : kk < l.length := by rw [← HNl.out]; exact hkl
                have j1 : (kk : Int) < (nl : Int) := by omega
                obtain ⟨x, hx⟩ : ∃ x, x = l[kk] := ⟨_, rfl⟩
                have hxl : l[kk]? = some x := by rw [hx]; exact List.getElem?_eq_getElem hk1
                obtain ⟨b, off, rfl⟩ := HPl.out.addr (by omega)
                obtain ⟨hbx, k1, m1, s1, X0, p0, c0, X1, p1, c1, t1, hcx⟩ := HPl.out.at hxl
                obtain ⟨f0, f1, f2, f3, f4, f5⟩ := hcx.up hbx HBr.out
                obtain ⟨V, hV⟩ : ∃ V, V = tyErr x := ⟨_, rfl⟩
                have HX : Hid (Calls Tryz.prog 21 #[.agg #[.int .i64 k1, .int .i64 m1, .string s1, .slice X0 p0 c0, .slice X1 p1 c1, .int .i64 t1]] wr fun e w' => e = .returned (.int .i64 V) ∧ Below wr.heap.size wr w') := Lib.hid (by
                  rw [hV]
                  exact HIH.out x (List.mem_of_getElem? hxl) _ wr ((hcx.rep.weaken (Q := fun _ => True) (fun _ _ => trivial)).keep (Same.of_below HBr.out)))
                have HTk : Hid (V = 0 → tysErr (l.take (kk + 1)) = 0) := Lib.hid (fun h => by rw [take_succ_of hk1, tysErr_snoc _ _ hSm.out, ← hx, ← hV, h])
                have HBad : Hid (V ≠ 0 → R = V) := Lib.hid (fun h => by rw [HRl.out, tysErr_at l kk x hSm.out hxl (by rw [← hV]; exact h), hV])
                clear hx hxl hcx hV hbx
                by_cases q0 : V = 0
                case neg =>
                  have HRf := Lib.hid (HBad.out q0)
                  have f9 : (V != 0) = true := by simpa using q0
                  clear q0 HBad HTk
                  go_wp2_with fail
                  refine HX.out.mono ?_
                  rintro e w' ⟨rfl, hb⟩
                  have HBn := Lib.hid (hB.out.trans (hb.mono hB.out.size))
                  clear hb a3
                  go_wp2_with fail
                  go_ret
                  exact ⟨by rw [HRf.out]; rfl, HB3.out.trans (HBn.out.mono HB3.out.size)⟩
                have HT2 := Lib.hid (HTk.out q0)
                subst q0
                clear HBad HTk
                go_wp2_with fail
                refine HX.out.mono ?_
                rintro e w' ⟨rfl, hb⟩
                have HBn := Lib.hid (hB.out.trans (hb.mono hB.out.size))
                clear hb a3
                go_wp2_with fail
                go_roundw
                case rel => exact ⟨kk + 1, by omega, by go_num, HBn, HT2⟩
                case measure => simp [intOf]; omega
              case neg =>
                obtain rfl : kk = nl := by omega
                have HRf : Hid (R = 0) := Lib.hid (by have h := hSm.out; rw [List.take_of_length_le (by rw [← HNl.out]; exact Nat.le_refl _)] at h; rw [HRl.out, h])
                go_wp2_with fail
                go_ret
                exact ⟨by rw [HRf.out]; rfl, HBr.out⟩
end Go.Proofs.YtbfojibhdadglaaGreatDoor
/- The reference's CheckType. -/
namespace Go.Proofs.YtbfojibhdadglaaGreatDoor
open Go.RowKit

/-- what CheckType answers for a type -/
def ckT (e : Ty) : Int := if rtlP e 3000 200 < 0 then 3 else tyErr e
set_option maxRecDepth 100000 in
set_option maxHeartbeats 1000000 in
theorem rCheckType_any (e : Ty) (v0 v1 v2 v3 v4 v5 : Value) (w : World) (h : RepT (fun _ => True) w e [v0, v1, v2, v3, v4, v5]) :
    Calls Tryz.prog 8 #[.agg #[v0, v1, v2, v3, v4, v5]] w fun r w' => r = .returned (.int .i64 (ckT e)) ∧ Below w.heap.size w w' := by
  have HT := Lib.hid (fun w' (hb : Below w.heap.size w w') => rtl_any e _ 3000 200 w' (h.keep (Same.of_below hb)) (by omega) (by omega) (by omega) (by omega))
  have HC := Lib.hid (fun w' (hb : Below w.heap.size w w') => rTyChk_any e _ w' (h.keep (Same.of_below hb)))
  obtain ⟨k, n, s, A0, n0, c0, A1, n1, c1, tl, hsh⟩ := h.shape
  simp only [List.cons.injEq, and_true] at hsh
  obtain ⟨rfl, rfl, rfl, rfl, rfl, rfl⟩ := hsh
  obtain ⟨M, hM⟩ : ∃ M, M = rtlP e 3000 200 := ⟨_, rfl⟩
  obtain ⟨E, hE⟩ : ∃ M, M = tyErr e := ⟨_, rfl⟩
  obtain ⟨R, hR⟩ : ∃ R, R = ckT e := ⟨_, rfl⟩
  have HR : Hid (R = if M < 0 then 3 else E) := Lib.hid (by rw [hR, hM, hE]; rfl)
  rw [← hM] at HT
  rw [← hE] at HC
  rw [← hR]
  obtain ⟨W1, hW1⟩ : ∃ W1, w.alloc (.cells #[.int .i64 k, .int .i64 n, .string s, .slice A0 n0 c0, .slice A1 n1 c1, .int .i64 tl] 28) = W1 := ⟨_, rfl⟩
  have HB1 : Hid (Below w.heap.size w W1) := Lib.hid (by rw [← hW1]; exact (Below.refl _ _).alloc (Nat.le_refl _) _)
  have HE1 : Hid (TyBx W1 w.heap.size (.int .i64 k) (.int .i64 n) (.string s) (.slice A0 n0 c0) (.slice A1 n1 c1) (.int .i64 tl)) := Lib.hid (by rw [← hW1]; exact TyBx.new w _ _ _ _ _ _)
  obtain ⟨a0, a1, a2, a3, a4, a5⟩ := HE1.out.c
  clear hM hE hR h
  by_cases g : M < 0
  · have HRf : Hid (R = 3) := Lib.hid (by rw [HR.out, if_pos g])
    have g1 : decide (M < 0) = true := decide_eq_true g
    clear g HR
    go_enter Tryz.func8, Tryz.ntmps8
    go_wp2_with fail
    clear hW1
    refine (HT.out _ HB1.out).mono ?_
    rintro r w2 ⟨rfl, hb⟩
    have HB2 := Lib.hid (HB1.out.trans (hb.mono HB1.out.size))
    clear hb a0 a1 a2 a3 a4 a5
    go_wp2_with fail
    go_ret
    exact ⟨by rw [HRf.out]; rfl, HB2.out⟩
  · have HRf : Hid (R = E) := Lib.hid (by rw [HR.out, if_neg g])
    have g1 : decide (M < 0) = false := decide_eq_false g
    clear g HR
    go_enter Tryz.func8, Tryz.ntmps8
    go_wp2_with fail
    clear hW1
    refine (HT.out _ HB1.out).mono ?_
    rintro r w2 ⟨rfl, hb⟩
    have HB2 := Lib.hid (HB1.out.trans (hb.mono HB1.out.size))
    have HE2 := Lib.hid (HE1.out.kept (grown_below hb none) (by simp))
    clear hb a0 a1 a2 a3 a4 a5
    obtain ⟨a0, a1, a2, a3, a4, a5⟩ := HE2.out.c
    go_wp2_with fail
    refine (HC.out _ HB2.out).mono ?_
    rintro r w3 ⟨rfl, hb⟩
    have HB3 := Lib.hid (HB2.out.trans (hb.mono HB2.out.size))
    clear hb a0 a1 a2 a3 a4 a5
    go_wp2_with fail
    go_ret
    exact ⟨by rw [HRf.out]; rfl, HB3.out⟩
end Go.Proofs.YtbfojibhdadglaaGreatDoor
/- A type's nodes in order; what CheckType answers, said by nodes. -/
namespace Go.Proofs.YtbfojibhdadglaaGreatDoor
open Go.RowKit

mutual
def nodesT : Int → Ty → List (Int × Ty)
  | d, .mk k n s l ls tl => (d, .mk k n s l ls tl) :: nodesTL (d + 1) l
def nodesTL : Int → List Ty → List (Int × Ty)
  | _, [] => []
  | d, x :: r => nodesT d x ++ nodesTL d r
end
theorem nodesTL_append (d : Int) : ∀ a b, nodesTL d (a ++ b) = nodesTL d a ++ nodesTL d b
  | [], b => by simp [nodesTL]
  | x :: r, b => by simp [nodesTL, nodesTL_append d r b]
theorem nodesT_parts (d : Int) : ∀ e, nodesT d e = (d, e) :: nodesTL (d + 1) e.l
  | .mk k n s l ls tl => by rw [nodesT]; rfl
theorem nodesTL_snoc (d : Int) (a : List Ty) (x : Ty) : nodesTL d (a ++ [x]) = nodesTL d a ++ nodesT d x := by rw [nodesTL_append]; simp [nodesTL]
theorem nodesTL_prefix (d : Int) {a b : List Ty} (h : a <+: b) : nodesTL d a <+: nodesTL d b := by
  obtain ⟨c, rfl⟩ := h; rw [nodesTL_append]; exact List.prefix_append _ _
theorem hT_part {e x : Ty} (h : x ∈ e.l) : hT x + 1 ≤ hT e := by
  have := hTL_mem h
  rw [hT_eq e]; omega
/-- the size and the depth of what comes, no further than to where one is above its limit -/
def measT : Int → Int → List (Int × Ty) → Int × Int
  | s, m, [] => (s, m)
  | s, m, (d, _) :: r => if 3000 < s + 1 ∨ 200 < max m d then (s + 1, max m d) else measT (s + 1) (max m d) r
/-- the first number that is not 0 -/
def firstT (chk : Ty → Int) : List (Int × Ty) → Int
  | [] => 0
  | (_, x) :: r => if chk x = 0 then firstT chk r else chk x
/-- some node has too many labels -/
def manyT : List (Int × Ty) → Bool
  | [] => false
  | (_, x) :: r => decide (24 < x.ls.length) || manyT r
/-- the error of a node -/
def tyN : Ty → Int
  | .mk k n s l ls tl => tyNode k n s l.length ls tl
/-- what the program's CheckType answers for a type -/
def pkT (e : Ty) : Int :=
  if 3000 < (measT 0 0 (nodesT 1 e)).1 ∨ 200 < (measT 0 0 (nodesT 1 e)).2 then 3 else if manyT (nodesT 1 e) = true then 3 else firstT tyN (nodesT 1 e)
mutual
def szT : Ty → Nat
  | .mk _ _ _ l _ _ => 1 + szTL l
def szTL : List Ty → Nat
  | [] => 0
  | x :: r => szT x + szTL r
end
theorem szT_pos : ∀ e, 1 ≤ szT e
  | .mk _ _ _ l _ _ => by rw [szT]; omega
mutual
theorem nodesT_len : ∀ (e : Ty) (d : Int), (nodesT d e).length = szT e
  | .mk k n s l ls tl, d => by rw [nodesT, List.length_cons, nodesTL_len l, szT]; omega
theorem nodesTL_len : ∀ (l : List Ty) (d : Int), (nodesTL d l).length = szTL l
  | [], d => by rw [nodesTL, szTL]; rfl
  | x :: r, d => by rw [nodesTL, List.length_append, nodesT_len x, nodesTL_len r, szTL]
end
mutual
def labT : Ty → Bool
  | .mk _ _ _ l ls _ => decide (24 < ls.length) || labTL l
def labTL : List Ty → Bool
  | [] => false
  | x :: r => labT x || labTL r
end
theorem manyT_append : ∀ a b, manyT (a ++ b) = (manyT a || manyT b)
  | [], b => by rw [List.nil_append, manyT, Bool.false_or]
  | (d, x) :: r, b => by rw [List.cons_append, manyT, manyT, manyT_append r b, Bool.or_assoc]
mutual
theorem manyT_nodes : ∀ (e : Ty) (d : Int), manyT (nodesT d e) = labT e
  | .mk k n s l ls tl, d => by rw [nodesT, manyT, manyT_nodesL l, labT]; rfl
theorem manyT_nodesL : ∀ (l : List Ty) (d : Int), manyT (nodesTL d l) = labTL l
  | [], d => by rw [nodesTL, labTL, manyT]
  | x :: r, d => by rw [nodesTL, manyT_append, manyT_nodes x, manyT_nodesL r, labTL]
end
theorem firstT_append (chk : Ty → Int) : ∀ a b, firstT chk (a ++ b) = if firstT chk a = 0 then firstT chk b else firstT chk a
  | [], b => by rw [List.nil_append, firstT, if_pos rfl]
  | (d, x) :: r, b => by
    rw [List.cons_append, firstT, firstT]
    by_cases h : chk x = 0
    · rw [if_pos h, if_pos h, firstT_append chk r b]
    · rw [if_neg h, if_neg h, if_neg h]
mutual
theorem firstT_nodes : ∀ (e : Ty) (d : Int), firstT tyN (nodesT d e) = tyErr e
  | .mk k n s l ls tl, d => by
    rw [nodesT, firstT, firstT_nodesL l, tyErr]
    rfl
theorem firstT_nodesL : ∀ (l : List Ty) (d : Int), firstT tyN (nodesTL d l) = tysErr l
  | [], d => by rw [nodesTL, firstT, tysErr]
  | x :: r, d => by rw [nodesTL, firstT_append, firstT_nodes x, firstT_nodesL r, tysErr]
end
mutual
theorem rtlP_spec : ∀ (e : Ty) (nodes d : Int), 0 ≤ nodes → ((hT e : Int) ≤ d ∧ labT e = false ∧ (szT e : Int) ≤ nodes → rtlP e nodes d = nodes - szT e) ∧ (¬ ((hT e : Int) ≤ d ∧ labT e = false ∧ (szT e : Int) ≤ nodes) → rtlP e nodes d < 0)
  | .mk k n s l ls tl, nodes, d, h => by
    rw [rtlP, hT, labT, szT]
    by_cases hc : d < 1 ∨ 24 < ls.length
    · rw [if_pos hc]
      refine ⟨fun ⟨h1, h2, h3⟩ => ?_, fun _ => by omega⟩
      rcases hc with hc | hc
      · omega
      · rw [decide_eq_true hc, Bool.true_or] at h2; cases h2
    · rw [if_neg hc]
      have hd : decide (24 < ls.length) = false := decide_eq_false (fun h => hc (.inr h))
      have h1 := rtlL_spec l (nodes - 1) (d - 1) (by omega) (by have := fun h => hc (.inl h); omega)
      rw [hd, Bool.false_or]
      refine ⟨fun ⟨g1, g2, g3⟩ => ?_, fun hn => h1.2 fun ⟨g1, g2, g3⟩ => hn ⟨by omega, g2, by omega⟩⟩
      rw [h1.1 ⟨by omega, g2, by omega⟩]; omega
theorem rtlL_spec : ∀ (l : List Ty) (nodes d : Int), -1 ≤ nodes → 0 ≤ d → ((hTL l : Int) ≤ d ∧ labTL l = false ∧ (szTL l : Int) ≤ nodes → rtlL l nodes d = nodes - szTL l) ∧ (¬ ((hTL l : Int) ≤ d ∧ labTL l = false ∧ (szTL l : Int) ≤ nodes) → rtlL l nodes d < 0)
  | [], nodes, d, h, h2 => by
    rw [rtlL, hTL, labTL, szTL]
    refine ⟨fun _ => by omega, fun hn => ?_⟩
    by_cases h0 : nodes < 0
    · exact h0
    · exact absurd ⟨by omega, rfl, by omega⟩ hn
  | e :: r, nodes, d, h, h2 => by
    rw [rtlL, hTL, labTL, szTL]
    have hp := szT_pos e
    by_cases h0 : nodes < 0
    · rw [if_pos h0]
      exact ⟨fun ⟨_, _, g⟩ => by omega, fun _ => h0⟩
    · rw [if_neg h0]
      have h1 := rtlP_spec e nodes d (by omega)
      by_cases he : (hT e : Int) ≤ d ∧ labT e = false ∧ (szT e : Int) ≤ nodes
      · rw [h1.1 he]
        obtain ⟨g1, g2, g3⟩ := he
        have h3 := rtlL_spec r (nodes - szT e) d (by omega) h2
        rw [g2, Bool.false_or]
        refine ⟨fun ⟨k1, k2, k3⟩ => ?_, fun hn => h3.2 fun ⟨k1, k2, k3⟩ => hn ⟨by omega, k2, by omega⟩⟩
        rw [h3.1 ⟨by omega, k2, by omega⟩]; omega
      · have h3 := h1.2 he
        rw [rtlL_neg _ _ _ h3]
        refine ⟨fun ⟨k1, k2, k3⟩ => absurd ⟨by omega, ?_, by omega⟩ he, fun _ => h3⟩
        cases hl : labT e with
        | false => rfl
        | true => rw [hl, Bool.true_or] at k2; cases k2
end
/-- the greatest level among nodes -/
def maxT : Int → List (Int × Ty) → Int
  | m, [] => m
  | m, (d, _) :: r => maxT (max m d) r
theorem maxT_append (m : Int) (a b : List (Int × Ty)) : maxT m (a ++ b) = maxT (maxT m a) b := by
  induction a generalizing m with
  | nil => rfl
  | cons x r ih => obtain ⟨d, x⟩ := x; exact ih _
theorem maxT_ge (m : Int) (a : List (Int × Ty)) : m ≤ maxT m a := by
  induction a generalizing m with
  | nil => exact Int.le_refl _
  | cons x r ih => obtain ⟨d, x⟩ := x; have := ih (max m d); unfold maxT; omega
mutual
theorem maxT_E : ∀ (e : Ty) (m d : Int), maxT m (nodesT d e) = max m (d - 1 + hT e)
  | .mk k n s l ls tl, m, d => by
    have h1 := maxT_L l (max m d) (d + 1) (by omega)
    simp only [nodesT, maxT]
    rw [h1]
    simp only [hT]
    omega
theorem maxT_L : ∀ (l : List Ty) (m d : Int), d - 1 ≤ m → maxT m (nodesTL d l) = max m (d - 1 + hTL l)
  | [], m, d, h => by simp [nodesTL, maxT, hTL]; omega
  | x :: r, m, d, h => by
    have h1 := maxT_E x m d
    have h2 := maxT_L r (max m (d - 1 + hT x)) d (by omega)
    simp only [nodesTL, maxT_append, hTL]
    rw [h1, h2]
    omega
end
theorem measT_maxT : ∀ (L : List (Int × Ty)) (s m : Int), (measT s m L).1 ≤ 3000 → (measT s m L).2 ≤ 200 → (measT s m L).2 = maxT m L ∧ (measT s m L).1 = s + L.length
  | [], s, m, _, _ => by simp [measT, maxT]
  | (d, x) :: r, s, m, h1, h2 => by
    unfold measT at h1 h2 ⊢
    split at h1
    · rename_i hc
      rw [if_pos hc] at h2
      simp only at h1 h2
      omega
    · rename_i hc
      rw [if_neg hc] at h2 ⊢
      have h3 := measT_maxT r _ _ h1 h2
      refine ⟨h3.1, ?_⟩
      rw [h3.2, List.length_cons]; omega
theorem measT_val : ∀ (L : List (Int × Ty)) (s m : Int), s + L.length ≤ 3000 → maxT m L ≤ 200 → measT s m L = (s + L.length, maxT m L)
  | [], s, m, _, _ => by simp [measT, maxT]
  | (d, x) :: r, s, m, h1, h2 => by
    unfold measT maxT at *
    have h3 := maxT_ge (max m d) r
    rw [List.length_cons] at h1
    rw [if_neg (by omega), measT_val r (s + 1) (max m d) (by omega) h2, List.length_cons]
    congr 1
    omega
/-- both sides answer the same -/
theorem ckT_pkT (e : Ty) : ckT e = pkT e := by
  unfold ckT pkT
  have h1 := rtlP_spec e 3000 200 (by omega)
  have hm := maxT_E e 0 1
  have hl := nodesT_len e 1
  rw [manyT_nodes, firstT_nodes]
  by_cases hb : 3000 < (measT 0 0 (nodesT 1 e)).1 ∨ 200 < (measT 0 0 (nodesT 1 e)).2
  · rw [if_pos hb, if_pos (h1.2 ?_)]
    rintro ⟨g1, _, g3⟩
    have hv := measT_val (nodesT 1 e) 0 0 (by omega) (by omega)
    rw [hv] at hb
    simp only at hb
    omega
  · rw [if_neg hb]
    have hv := measT_maxT (nodesT 1 e) 0 0 (by omega) (by omega)
    by_cases hq : labT e = true
    · rw [if_pos hq, if_pos (h1.2 ?_)]
      rintro ⟨_, g2, _⟩
      rw [hq] at g2; cases g2
    · rw [if_neg hq, if_neg]
      rw [h1.1 ⟨by omega, by simpa using hq, by omega⟩]
      omega
end Go.Proofs.YtbfojibhdadglaaGreatDoor
