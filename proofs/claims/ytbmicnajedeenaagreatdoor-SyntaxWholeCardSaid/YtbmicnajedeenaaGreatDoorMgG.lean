/- Texts put together by program: Ty RParts RPartsW PtMath Evn SmA TyB RefB RChkA TyJ TyK TyV TyC TyI TyL TyM TyP TyQ PgA. -/
import Derived.Test.YtbmicnajedeenaaGreatDoorMgB
import Derived.Test.YtbmicnajedeenaaGreatDoorMgF
import Derived.Laws.AppendOwnNone
import Derived.Test.YtbmicnajedeenaaGreatDoorMgA
import Derived.Deep.RegionHeld3
import Derived.Test.YtbmicnajedeenaaGreatDoorMgC
import Derived.Test.YtbmicnajedeenaaGreatDoorMgE
/- Types as trees, how they lie in memory, and an argument that is a type, opened. -/
namespace Go.Proofs.YtbmicnajedeenaaGreatDoor
open Go.ChangeShapes Go.WideShapes Go.Deep Go.RowKit

/-- a type: its kind, number, string, parts, labels, tail -/
inductive Ty where
  | mk (k n : Int) (s : List UInt8) (l : List Ty) (ls : List (List UInt8 × Int)) (tl : Int)
namespace Ty
def k : Ty → Int | mk k .. => k
def n : Ty → Int | mk _ n .. => n
def s : Ty → List UInt8 | mk _ _ s .. => s
def l : Ty → List Ty | mk _ _ _ l .. => l
def ls : Ty → List (List UInt8 × Int) | mk _ _ _ _ ls _ => ls
def tl : Ty → Int | mk _ _ _ _ _ tl => tl
end Ty
/-- labels lie in memory -/
def LabsAt (P : Nat → Prop) (w : World) (A : Option Addr) (L : List (List UInt8 × Int)) : Prop :=
  L ≠ [] → ∃ b off, A = some ⟨b, off, none⟩ ∧ P b ∧ b < w.heap.size ∧ ∀ (j : Nat) (x : List UInt8 × Int), L[j]? = some x → w.cell? ⟨b, off + j * 2, none⟩ = some (.string (strB x.1)) ∧ w.cell? ⟨b, off + j * 2 + 1, none⟩ = some (.int .i64 x.2)
def tyCells (k n : Int) (s : List UInt8) (Al : Option Addr) (nl cl : Nat) (Ar : Option Addr) (nr cr : Nat) (tl : Int) : List Value :=
  [.int .i64 k, .int .i64 n, .string (strB s), .slice Al nl cl, .slice Ar nr cr, .int .i64 tl]
/-- the bounds of what is read -/
structure FitsT (k n : Int) (s : List UInt8) (ls : List (List UInt8 × Int)) (tl : Int) (nl cl cr : Nat) : Prop where
  hk : okN k
  hn : okN n
  hs : okS s
  htl : okN tl
  hls : ∀ x ∈ ls, okS x.1 ∧ okN x.2
  hcl : nl ≤ cl ∧ cl ≤ maxLen
  hcr : ls.length ≤ cr ∧ cr ≤ maxLen
mutual
/-- six cells are a type, whose blocks are of some kind -/
def RepT (P : Nat → Prop) (w : World) : Ty → List Value → Prop
  | .mk k n s l ls tl, cs => ∃ Al cl Ar cr, cs = tyCells k n s Al l.length cl Ar ls.length cr tl ∧ FitsT k n s ls tl l.length cl cr ∧ LabsAt P w Ar ls ∧
      (l ≠ [] → ∃ b off, Al = some ⟨b, off, none⟩ ∧ P b ∧ b < w.heap.size ∧ RepTL P w b off l)
def RepTL (P : Nat → Prop) (w : World) (b : Nat) : Nat → List Ty → Prop
  | _, [] => True
  | off, e :: r => (∃ cs, cs.length = 6 ∧ CellsAt w b off cs ∧ RepT P w e cs) ∧ RepTL P w b (off + 6) r
end
theorem LabsAt.keep {P : Nat → Prop} {w w' : World} {A : Option Addr} {L : List (List UInt8 × Int)} (h : LabsAt P w A L) (hs : Same P w w') : LabsAt P w' A L := fun h0 => by
  obtain ⟨b, off, e, hp, hlt, hc⟩ := h h0
  exact ⟨b, off, e, hp, Nat.lt_of_lt_of_le hlt hs.1, fun j l hj => ⟨(hs.cell hp hlt _).trans (hc j l hj).1, (hs.cell hp hlt _).trans (hc j l hj).2⟩⟩
theorem LabsAt.weaken {P Q : Nat → Prop} {w : World} {A : Option Addr} {L : List (List UInt8 × Int)} (h : LabsAt P w A L) (hq : ∀ b, P b → Q b) : LabsAt Q w A L := fun h0 => by
  obtain ⟨b, off, e, hp, hlt, hc⟩ := h h0
  exact ⟨b, off, e, hq _ hp, hlt, hc⟩
mutual
theorem RepT.keep {P : Nat → Prop} {w w' : World} (hs : Same P w w') : ∀ {e : Ty} {cs : List Value}, RepT P w e cs → RepT P w' e cs
  | .mk k n s l ls tl, cs, h => by
    obtain ⟨Al, cl, Ar, cr, e, hf, hn, hl⟩ := h
    refine ⟨Al, cl, Ar, cr, e, hf, hn.keep hs, fun h0 => ?_⟩
    obtain ⟨b, off, e, hp, hlt, hr⟩ := hl h0
    exact ⟨b, off, e, hp, Nat.lt_of_lt_of_le hlt hs.1, RepTL.keep hs hp hlt hr⟩
theorem RepTL.keep {P : Nat → Prop} {w w' : World} (hs : Same P w w') {b : Nat} (hp : P b) (hlt : b < w.heap.size) : ∀ {l : List Ty} {off : Nat}, RepTL P w b off l → RepTL P w' b off l
  | [], off, _ => trivial
  | e :: r, off, h => by
    obtain ⟨⟨cs, h7, hc, he⟩, hr⟩ := h
    exact ⟨⟨cs, h7, hc.keep hp hlt hs, RepT.keep hs he⟩, RepTL.keep hs hp hlt hr⟩
end
mutual
theorem RepT.weaken {P Q : Nat → Prop} {w : World} (hq : ∀ b, P b → Q b) : ∀ {e : Ty} {cs : List Value}, RepT P w e cs → RepT Q w e cs
  | .mk k n s l ls tl, cs, h => by
    obtain ⟨Al, cl, Ar, cr, e, hf, hn, hl⟩ := h
    refine ⟨Al, cl, Ar, cr, e, hf, hn.weaken hq, fun h0 => ?_⟩
    obtain ⟨b, off, e, hp, hlt, hr⟩ := hl h0
    exact ⟨b, off, e, hq _ hp, hlt, RepTL.weaken hq hr⟩
theorem RepTL.weaken {P Q : Nat → Prop} {w : World} (hq : ∀ b, P b → Q b) {b : Nat} : ∀ {l : List Ty} {off : Nat}, RepTL P w b off l → RepTL Q w b off l
  | [], off, _ => trivial
  | e :: r, off, h => by
    obtain ⟨⟨cs, h7, hc, he⟩, hr⟩ := h
    exact ⟨⟨cs, h7, hc, RepT.weaken hq he⟩, RepTL.weaken hq hr⟩
end
theorem RepTL.at {P : Nat → Prop} {w : World} {b : Nat} : ∀ {l : List Ty} {off j : Nat} {e : Ty}, RepTL P w b off l → l[j]? = some e → ∃ cs, cs.length = 6 ∧ CellsAt w b (off + j * 6) cs ∧ RepT P w e cs
  | [], off, j, e, _, h => by simp at h
  | x :: r, off, 0, e, hr, h => by
    simp only [List.getElem?_cons_zero, Option.some.injEq] at h
    subst h
    simpa using hr.1
  | x :: r, off, j + 1, e, hr, h => by
    simp only [List.getElem?_cons_succ] at h
    have := RepTL.at hr.2 h
    rwa [show off + 6 + j * 6 = off + (j + 1) * 6 by omega] at this
theorem RepTL.of {P : Nat → Prop} {w : World} {b : Nat} : ∀ {l : List Ty} {off : Nat}, (∀ j e, l[j]? = some e → ∃ cs, cs.length = 6 ∧ CellsAt w b (off + j * 6) cs ∧ RepT P w e cs) → RepTL P w b off l
  | [], off, _ => trivial
  | x :: r, off, h => by
    refine ⟨by simpa using h 0 x rfl, RepTL.of fun j e hj => ?_⟩
    have := h (j + 1) e (by simpa using hj)
    rwa [show off + (j + 1) * 6 = off + 6 + j * 6 by omega] at this
theorem Ty.ind {P : Ty → Prop} (h : ∀ e, (∀ x ∈ e.l, P x) → P e) : ∀ e, P e := by
  have key : ∀ (n : Nat) (e : Ty), SizeOf.sizeOf e ≤ n → P e := by
    intro n
    induction n with
    | zero => intro e he; cases e; simp at he
    | succ n ih =>
      intro e he
      refine h e fun x hx => ih x ?_
      cases e with
      | mk k m s l ls tl =>
        simp only [Ty.mk.sizeOf_spec] at he
        have := List.sizeOf_lt_of_mem (show x ∈ l from hx); omega
  exact fun e => key _ e (Nat.le_refl _)
/-- the six cells of a type -/
theorem RepT.shape {P : Nat → Prop} {w : World} {e : Ty} {cs : List Value} (h : RepT P w e cs) : ∃ k n s A0 n0 c0 A1 n1 c1 tl, cs = [.int .i64 k, .int .i64 n, .string s, .slice A0 n0 c0, .slice A1 n1 c1, .int .i64 tl] := by
  cases e
  obtain ⟨Al, cl, Ar, cr, e, _⟩ := h
  exact ⟨_, _, _, _, _, _, _, _, _, _, e⟩

section
variable {H : Type} {enc : TypeId × Value → H} {W : World} {sp : Nat → Bool} {held : Bool}
set_option maxRecDepth 100000 in
theorem label_of {f : Nat} {cs : List Value} {x : DataW H × List MemPlace} (h2 : cs.length = 2) (h : DataW.trod enc Tryz.prog W 0 sp held f 140 cs = some x) : ∃ y : List UInt8 × Int, (okS y.1 ∧ okN y.2) ∧ cs = [.string (strB y.1), .int .i64 y.2] := by
  obtain ⟨xs, m, hm, _, hl, hxl, hf⟩ := DataW.trod_struct Tryz.underlying140 h
  have hxl2 : xs.length = 2 := hxl
  have k3 : Tryz.prog.cellsOf 3 = 1 := by kernel_rfl
  have k9 : Tryz.prog.cellsOf 9 = 1 := by kernel_rfl
  match cs, h2, xs, hxl2 with
  | [c0, c1], _, [y0, y1], _ =>
    have f0 : DataW.trod enc Tryz.prog W 0 sp held m 9 [c0] = some y0 := by have := hf 0 _ rfl; simpa [k9] using this
    have f1 : DataW.trod enc Tryz.prog W 0 sp held m 3 [c1] = some y1 := by have := hf 1 _ rfl; simpa [k3] using this
    obtain ⟨s, e0, w0⟩ := str_of f0
    obtain ⟨n, e1, w1⟩ := int_of Tryz.underlying3 f1
    simp only [List.cons.injEq, and_true] at e0 e1
    subst e0; subst e1
    exact ⟨(s, n), ⟨w0, w1⟩, rfl⟩
theorem open_labels {cs : List Value} {x : DataW H × List MemPlace} {f : Nat} (h : DataW.trod enc Tryz.prog W 0 sp held f 59 cs = some x) :
    ∃ A c, ∃ L : List (List UInt8 × Int), cs = [.slice A L.length c] ∧ L.length ≤ c ∧ c ≤ maxLen ∧ LabsAt (fun _ => True) W A L ∧ ∀ s ∈ L, okS s.1 ∧ okN s.2 := by
  obtain ⟨A, c, L, e, hl, hm, hr⟩ := rows_of Tryz.underlying59 (k := 2) (by kernel_rfl) (by omega) h (fun cs' (y : List UInt8 × Int) => (okS y.1 ∧ okN y.2) ∧ cs' = [.string (strB y.1), .int .i64 y.2]) fun n cs' y _ h2 ht => label_of h2 ht
  refine ⟨A, c, L, e, hl, hm, fun h0 => ?_, fun s hs => ?_⟩
  · obtain ⟨b, off, ea, hlt, hp⟩ := hr h0
    refine ⟨b, off, ea, trivial, hlt, fun j l hj => ?_⟩
    obtain ⟨cs', _, hc, _, rfl⟩ := hp j l hj
    exact ⟨by have := hc 0 _ rfl; simpa using this, by have := hc 1 _ rfl; simpa using this⟩
  · obtain ⟨b, off, ea, hlt, hp⟩ := hr (List.ne_nil_of_mem hs)
    obtain ⟨i, hil, rfl⟩ := List.getElem_of_mem hs
    obtain ⟨_, _, _, h, _⟩ := hp i _ (List.getElem?_eq_getElem hil)
    exact h
set_option maxRecDepth 100000 in
theorem open_row {cs : List Value} {x : DataW H × List MemPlace} {f : Nat} (h2 : cs.length = 2) (h : DataW.trod enc Tryz.prog W 0 sp held f 61 cs = some x) :
    ∃ A c, ∃ L : List (List UInt8 × Int), ∃ tl, cs = [.slice A L.length c, .int .i64 tl] ∧ L.length ≤ c ∧ c ≤ maxLen ∧ LabsAt (fun _ => True) W A L ∧ (∀ s ∈ L, okS s.1 ∧ okN s.2) ∧ okN tl := by
  obtain ⟨xs, m, hm, _, hl, hxl, hf⟩ := DataW.trod_struct Tryz.underlying61 h
  have hxl2 : xs.length = 2 := hxl
  have k3 : Tryz.prog.cellsOf 3 = 1 := by kernel_rfl
  have kL : Tryz.prog.cellsOf 59 = 1 := by kernel_rfl
  match cs, h2, xs, hxl2 with
  | [c0, c1], _, [y0, y1], _ =>
    have f0 : DataW.trod enc Tryz.prog W 0 sp held m 59 [c0] = some y0 := by have := hf 0 _ rfl; simpa [kL] using this
    have f1 : DataW.trod enc Tryz.prog W 0 sp held m 3 [c1] = some y1 := by have := hf 1 _ rfl; simpa [k3] using this
    obtain ⟨A, c, L, e0, g1, g2, g3, g4⟩ := open_labels f0
    obtain ⟨n, e1, w1⟩ := int_of Tryz.underlying3 f1
    simp only [List.cons.injEq, and_true] at e0 e1
    subst e0; subst e1
    exact ⟨A, c, L, n, rfl, g1, g2, g3, g4, w1⟩
set_option maxRecDepth 100000 in
/-- six cells that read as a type -/
theorem open_ty (f : Nat) : ∀ {cs : List Value} {x : DataW H × List MemPlace}, cs.length = 6 → DataW.trod enc Tryz.prog W 0 sp held f 63 cs = some x → ∃ e, RepT (fun _ => True) W e cs := by
  induction f using Nat.strongRecOn with
  | ind f ih =>
    intro cs x h6 h
    obtain ⟨xs, m, hm, _, hl, hxl, hf⟩ := DataW.trod_struct Tryz.underlying63 h
    have hxl5 : xs.length = 5 := hxl
    have k0 : Tryz.prog.cellsOf 58 = 1 := by kernel_rfl
    have k3 : Tryz.prog.cellsOf 3 = 1 := by kernel_rfl
    have k9 : Tryz.prog.cellsOf 9 = 1 := by kernel_rfl
    have kL : Tryz.prog.cellsOf 51 = 1 := by kernel_rfl
    have kR : Tryz.prog.cellsOf 61 = 2 := by kernel_rfl
    match cs, h6, xs, hxl5 with
    | [c0, c1, c2, c3, c4, c5], _, [y0, y1, y2, y3, y4], _ =>
      have f0 : DataW.trod enc Tryz.prog W 0 sp held m 58 [c0] = some y0 := by have := hf 0 _ rfl; simpa [k0] using this
      have f1 : DataW.trod enc Tryz.prog W 0 sp held m 3 [c1] = some y1 := by have := hf 1 _ rfl; simpa [k3] using this
      have f2 : DataW.trod enc Tryz.prog W 0 sp held m 9 [c2] = some y2 := by have := hf 2 _ rfl; simpa [k9] using this
      have f3 : DataW.trod enc Tryz.prog W 0 sp held m 51 [c3] = some y3 := by have := hf 3 _ rfl; simpa [kL] using this
      have f4 : DataW.trod enc Tryz.prog W 0 sp held m 61 [c4, c5] = some y4 := by have := hf 4 _ rfl; simpa [kR] using this
      obtain ⟨k, e0, w0⟩ := int_of Tryz.underlying58 f0
      obtain ⟨n, e1, w1⟩ := int_of Tryz.underlying3 f1
      obtain ⟨s, e2, w2⟩ := str_of f2
      obtain ⟨Al, cl, l, e3, hl1, hl2, hL⟩ := rows_of Tryz.underlying51 (k := 6) (by kernel_rfl) (by omega) f3 (fun cs' e => RepT (fun _ => True) W e cs') fun n cs' y hlt h7 ht => ih n (by omega) h7 ht
      obtain ⟨Ar, cr, ls, tl, e4, hr1, hr2, hr3, hr4, hr5⟩ := open_row rfl f4
      simp only [List.cons.injEq, and_true] at e0 e1 e2 e3 e4
      obtain ⟨e4, e5⟩ := e4
      subst e0; subst e1; subst e2; subst e3; subst e4; subst e5
      refine ⟨.mk k n s l ls tl, Al, cl, Ar, cr, rfl, ⟨w0, w1, w2, hr5, hr4, ⟨hl1, hl2⟩, ⟨hr1, hr2⟩⟩, hr3, fun h0 => ?_⟩
      obtain ⟨b, off, e, hlt, hr⟩ := hL h0
      exact ⟨b, off, e, trivial, hlt, RepTL.of hr⟩
end
end Go.Proofs.YtbmicnajedeenaaGreatDoor
/- The reference's Parts. -/
namespace Go.Proofs.YtbmicnajedeenaaGreatDoor
open Go.RowKit

/-- cells of expressions, in order -/
def CellsOf (B : Nat) (w : World) (l : List Ex) (cl : List (List Value)) : Prop := cl.length = l.length ∧ ∀ (j : Nat) (e : Ex) (c : List Value), l[j]? = some e → cl[j]? = some c → c.length = 7 ∧ (∀ u ∈ c, u.oneCell' = true) ∧ RepE (fun b => b < B) w e c
theorem CellsOf.keep {B : Nat} {w w' : World} {l : List Ex} {cl : List (List Value)} (h : CellsOf B w l cl) (hs : Same (fun b => b < B) w w') : CellsOf B w' l cl :=
  ⟨h.1, fun j e c h1 h2 => by obtain ⟨a, b, c⟩ := h.2 j e c h1 h2; exact ⟨a, b, c.keep hs⟩⟩
theorem one_cells {k n : Int} {s t : ByteArray} {A0 : Option Addr} {n0 c0 : Nat} {A1 : Option Addr} {n1 c1 : Nat} {A2 : Option Addr} {n2 c2 : Nat} : ∀ u ∈ [Value.int .i64 k, .int .i64 n, .string s, .string t, .slice A0 n0 c0, .slice A1 n1 c1, .slice A2 n2 c2], u.oneCell' = true := by
  intro u hu
  simp only [List.mem_cons, List.not_mem_nil, or_false] at hu
  rcases hu with rfl | rfl | rfl | rfl | rfl | rfl | rfl <;> rfl
theorem CellsOf.take {B : Nat} {w : World} {l : List Ex} {cl : List (List Value)} (h : CellsOf B w l cl) (k : Nat) : CellsOf B w (l.take k) (cl.take k) := by
  refine ⟨by rw [List.length_take, List.length_take, h.1], fun j e c h1 h2 => ?_⟩
  rw [List.getElem?_take] at h1 h2
  split at h1
  · rename_i hj
    rw [if_pos hj] at h2
    exact h.2 j e c h1 h2
  · cases h1
theorem cflat_len {cl : List (List Value)} (h : ∀ c ∈ cl, c.length = 7) : cl.flatten.length = cl.length * 7 := by
  induction cl with
  | nil => rfl
  | cons c r ih => rw [List.flatten_cons, List.length_append, h c (by simp), ih (fun x hx => h x (by simp [hx])), List.length_cons]; omega
theorem cflat_at {cl : List (List Value)} (h : ∀ c ∈ cl, c.length = 7) : ∀ (j i : Nat) (c : List Value), cl[j]? = some c → i < 7 → cl.flatten[j * 7 + i]? = c[i]? := by
  induction cl with
  | nil => intro j i c h1; simp at h1
  | cons a r ih =>
    intro j i c h1 hi
    have ha := h a (by simp)
    rw [List.flatten_cons]
    cases j with
    | zero =>
      simp at h1
      subst h1
      rw [List.getElem?_append_left (by omega), Nat.zero_mul, Nat.zero_add]
    | succ j =>
      rw [List.getElem?_append_right (by omega), show (j + 1) * 7 + i - a.length = j * 7 + i by omega]
      exact ih (fun x hx => h x (by simp [hx])) j i c (by simpa using h1) hi
theorem CellsOf.seven {B : Nat} {w : World} {l : List Ex} {cl : List (List Value)} (h : CellsOf B w l cl) : ∀ c ∈ cl, c.length = 7 := fun c hc => by
  obtain ⟨j, hj, rfl⟩ := List.getElem_of_mem hc
  exact (h.2 j _ _ (List.getElem?_eq_getElem (show j < l.length by rw [← h.1]; exact hj)) (List.getElem?_eq_getElem hj)).1
theorem CellsOf.one {B : Nat} {w : World} {l : List Ex} {cl : List (List Value)} (h : CellsOf B w l cl) : ∀ u ∈ cl.flatten, u.oneCell' = true := fun u hu => by
  obtain ⟨c, hc, hu⟩ := List.mem_flatten.1 hu
  obtain ⟨j, hj, rfl⟩ := List.getElem_of_mem hc
  exact (h.2 j _ _ (List.getElem?_eq_getElem (show j < l.length by rw [← h.1]; exact hj)) (List.getElem?_eq_getElem hj)).2.1 u hu
/-- parts in memory, as their cells -/
theorem PartsAt.cellsOf {B : Nat} {w : World} {b off : Nat} {l : List Ex} (h : PartsAt B w (some ⟨b, off, none⟩) l) : ∃ cl, CellsOf B w l cl ∧ ∀ (j : Nat) (u : Value), cl.flatten[j]? = some u → w.cell? ⟨b, off + j, none⟩ = some u := by
  obtain ⟨cl, hl, hc⟩ := list_of (α := List Value) l.length (fun i c => ∃ e, l[i]? = some e ∧ c.length = 7 ∧ (∀ u ∈ c, u.oneCell' = true) ∧ RepE (fun b => b < B) w e c ∧ ∀ i' u, c[i']? = some u → w.cell? ⟨b, off + (i * 7 + i'), none⟩ = some u) fun i hi => by
    obtain ⟨_, k, n, s, t, A0, n0, c0, A1, n1, c1, A2, n2, c2, H⟩ := h.at (List.getElem?_eq_getElem hi)
    refine ⟨_, _, List.getElem?_eq_getElem hi, rfl, one_cells, H.rep, fun i' u hu => ?_⟩
    match i', hu with
    | 0, hu => simp at hu; subst hu; exact H.d0
    | 1, hu => simp at hu; subst hu; have := H.d1; rwa [Nat.add_assoc] at this
    | 2, hu => simp at hu; subst hu; have := H.d2; rwa [Nat.add_assoc] at this
    | 3, hu => simp at hu; subst hu; have := H.d3; rwa [Nat.add_assoc] at this
    | 4, hu => simp at hu; subst hu; have := H.d4; rwa [Nat.add_assoc] at this
    | 5, hu => simp at hu; subst hu; have := H.d5; rwa [Nat.add_assoc] at this
    | 6, hu => simp at hu; subst hu; have := H.d6; rwa [Nat.add_assoc] at this
    | i' + 7, hu => simp at hu
  have h7 : ∀ c ∈ cl, c.length = 7 := fun c hcm => by
    obtain ⟨j, hj, rfl⟩ := List.getElem_of_mem hcm
    obtain ⟨_, _, h, _⟩ := hc j _ (List.getElem?_eq_getElem hj)
    exact h
  refine ⟨cl, ⟨hl, fun j e c h1 h2 => ?_⟩, fun j u hu => ?_⟩
  · obtain ⟨e', he, a1, a2, a3, _⟩ := hc j c h2
    obtain rfl : e' = e := Option.some.inj (he.symm.trans h1)
    exact ⟨a1, a2, a3⟩
  · have hj := (List.getElem?_eq_some_iff.1 hu).1
    rw [cflat_len h7] at hj
    have hjl : j / 7 < cl.length := by omega
    obtain ⟨_, _, _, _, _, a4⟩ := hc (j / 7) _ (List.getElem?_eq_getElem hjl)
    have e1 : j / 7 * 7 + j % 7 = j := by omega
    have := cflat_at h7 (j / 7) (j % 7) _ (List.getElem?_eq_getElem hjl) (by omega)
    rw [e1, hu] at this
    have := a4 (j % 7) u this.symm
    rwa [e1] at this
theorem ArmsAt.cellsOf {B : Nat} {w : World} {b off : Nat} {hs : List (Txt × List Txt)} {l : List Ex} (h : ArmsAt B w (some ⟨b, off, none⟩) hs l) (hl : hs.length = l.length) : ∃ cl, CellsOf B w l cl ∧ ∀ (j : Nat) (c : List Value), cl[j]? = some c → ∃ k n s t A0 n0 c0 A1 n1 c1 A2 n2 c2, c = [.int .i64 k, .int .i64 n, .string s, .string t, .slice A0 n0 c0, .slice A1 n1 c1, .slice A2 n2 c2] ∧
    w.cell? ⟨b, off + j * 9 + 2, none⟩ = some (.int .i64 k) ∧ w.cell? ⟨b, off + j * 9 + 3, none⟩ = some (.int .i64 n) ∧ w.cell? ⟨b, off + j * 9 + 4, none⟩ = some (.string s) ∧ w.cell? ⟨b, off + j * 9 + 5, none⟩ = some (.string t) ∧ w.cell? ⟨b, off + j * 9 + 6, none⟩ = some (.slice A0 n0 c0) ∧ w.cell? ⟨b, off + j * 9 + 7, none⟩ = some (.slice A1 n1 c1) ∧ w.cell? ⟨b, off + j * 9 + 8, none⟩ = some (.slice A2 n2 c2) := by
  obtain ⟨cl, hcl, hc⟩ := list_of (α := List Value) l.length (fun i c => ∃ e, l[i]? = some e ∧ ∃ k n s t A0 n0 c0 A1 n1 c1 A2 n2 c2, c = [.int .i64 k, .int .i64 n, .string s, .string t, .slice A0 n0 c0, .slice A1 n1 c1, .slice A2 n2 c2] ∧ RepE (fun b => b < B) w e c ∧
      w.cell? ⟨b, off + i * 9 + 2, none⟩ = some (.int .i64 k) ∧ w.cell? ⟨b, off + i * 9 + 3, none⟩ = some (.int .i64 n) ∧ w.cell? ⟨b, off + i * 9 + 4, none⟩ = some (.string s) ∧ w.cell? ⟨b, off + i * 9 + 5, none⟩ = some (.string t) ∧ w.cell? ⟨b, off + i * 9 + 6, none⟩ = some (.slice A0 n0 c0) ∧ w.cell? ⟨b, off + i * 9 + 7, none⟩ = some (.slice A1 n1 c1) ∧ w.cell? ⟨b, off + i * 9 + 8, none⟩ = some (.slice A2 n2 c2)) fun i hi => by
    obtain ⟨b', off', e', _, _, hcc⟩ := h (fun h0 => by rw [h0] at hi; simp at hi)
    injection e' with e'
    injection e' with e1 e2 e3
    subst e1; subst e2
    obtain ⟨An, cn, k, n, s, t, A0, n0, c0, A1, n1, c1, A2, n2, c2, H⟩ := hcc i _ _ (List.getElem?_eq_getElem (show i < hs.length by omega)) (List.getElem?_eq_getElem hi)
    exact ⟨_, _, List.getElem?_eq_getElem hi, k, n, s, t, A0, n0, c0, A1, n1, c1, A2, n2, c2, rfl, H.rep, H.d2, H.d3, H.d4, H.d5, H.d6, H.d7, H.d8⟩
  refine ⟨cl, ⟨hcl, fun j e c h1 h2 => ?_⟩, fun j c h2 => ?_⟩
  · obtain ⟨e', he, k, n, s, t, A0, n0, c0, A1, n1, c1, A2, n2, c2, rfl, a3, _⟩ := hc j c h2
    obtain rfl : e' = e := Option.some.inj (he.symm.trans h1)
    exact ⟨rfl, one_cells, a3⟩
  · obtain ⟨e', he, k, n, s, t, A0, n0, c0, A1, n1, c1, A2, n2, c2, e, _, r⟩ := hc j c h2
    exact ⟨k, n, s, t, A0, n0, c0, A1, n1, c1, A2, n2, c2, e, r⟩
end Go.Proofs.YtbmicnajedeenaaGreatDoor
/- The reference's Parts, walked. -/
namespace Go.Proofs.YtbmicnajedeenaaGreatDoor
open Go.RowKit

theorem own_slice {w : World} {base : Nat} {T : TypeId} {size : Nat} {v : Value} {n : Nat} {xs : List Value} (h : w.ownsRow base T size v n xs) : ∃ A c, v = .slice A n c := by
  rcases h.2 with ⟨e, h0⟩ | ⟨g, cap, cur, e, _⟩
  · exact ⟨none, 0, by rw [e, h0]⟩
  · exact ⟨_, _, e⟩
end Go.Proofs.YtbmicnajedeenaaGreatDoor
/- Parts of a well-formed expression: their sizes, depths and texts. -/
namespace Go.Proofs.YtbmicnajedeenaaGreatDoor
open Go.RowKit

/-- a piece list lies within another, with so much beside it -/
def Sub (q ps : List Txt) (n : Nat) : Prop := ∃ a b, ps = a ++ (q ++ b) ∧ n ≤ tot a + tot b
theorem Sub.self (q : List Txt) : Sub q q 0 := ⟨[], [], by simp, Nat.zero_le _⟩
theorem Sub.left {q xs : List Txt} {n : Nat} (h : Sub q xs n) (ys : List Txt) : Sub q (xs ++ ys) (n + tot ys) := by
  obtain ⟨a, b, rfl, hn⟩ := h
  exact ⟨a, b ++ ys, by simp, by rw [tot_append]; omega⟩
theorem Sub.right {q ys : List Txt} {n : Nat} (xs : List Txt) (h : Sub q ys n) : Sub q (xs ++ ys) (tot xs + n) := by
  obtain ⟨a, b, rfl, hn⟩ := h
  exact ⟨xs ++ a, b, by simp, by rw [tot_append]; omega⟩
theorem Sub.mono {q ps : List Txt} {n k : Nat} (h : Sub q ps n) (hk : k ≤ n) : Sub q ps k := by
  obtain ⟨a, b, e, hn⟩ := h
  exact ⟨a, b, e, by omega⟩
theorem Sub.atP (a : Int) (q : LvP) : Sub q.2 (atP a q) 0 := by
  unfold Proofs.YtbmicnajedeenaaGreatDoor.atP
  split
  · exact Sub.self _
  · exact ((Sub.self q.2).left [[41]] |>.right [[40]]).mono (Nat.zero_le _)
theorem Sub.behind : ∀ (l : List LvP) (ts : List Txt) (q : LvP), q ∈ l → l.length ≤ ts.length → (∀ t ∈ ts, 0 < t.length) → Sub q.2 (behindP l ts) 1
  | [], _, _, h, _, _ => by simp at h
  | a :: r, [], _, _, hl, _ => by simp at hl
  | a :: r, t :: ts, q, h, hl, ht => by
    have h1 := ht t (by simp)
    have h2 : tot [t] = t.length := rfl
    unfold behindP
    rcases List.mem_cons.1 h with rfl | h
    · exact (((Sub.atP 0 q).left (behindP r ts)).right [t]).mono (by omega)
    · exact (((Sub.behind r ts q h (by simpa using hl) (fun x hx => ht x (by simp [hx]))).right (Proofs.YtbmicnajedeenaaGreatDoor.atP 0 a)).right [t]).mono (by omega)
theorem Sub.list (sep : Txt) : ∀ (xs : List (List Txt)) (q : List Txt), (∃ x ∈ xs, Sub q x 0) → Sub q (listP sep xs) 0
  | [], q, h => by obtain ⟨x, hx, _⟩ := h; simp at hx
  | y :: r, q, h => by
    obtain ⟨x, hx, hs⟩ := h
    unfold listP
    rcases List.mem_cons.1 hx with rfl | hx
    · exact (hs.left _).mono (Nat.zero_le _)
    · have key : ∀ r : List (List Txt), x ∈ r → Sub q (r.flatMap fun y => [sep] ++ y) 0 := by
        intro r
        induction r with
        | nil => intro h; simp at h
        | cons z r ih =>
          intro h
          rw [List.flatMap_cons]
          rcases List.mem_cons.1 h with rfl | h
          · exact ((hs.right [sep]).left _).mono (Nat.zero_le _)
          · exact ((ih h).right _).mono (Nat.zero_le _)
      exact ((key r hx).right _).mono (Nat.zero_le _)
theorem Sub.braces {hs : List (Txt × List Txt)} {l : List LvP} {q : LvP} (h : q ∈ l) (hl : hs.length = l.length) : Sub q.2 (bracesP hs l) 1 := by
  obtain ⟨j, hj, rfl⟩ := List.getElem_of_mem h
  unfold bracesP
  have h1 : Sub l[j].2 (armP (hs[j]'(by omega)) l[j]) 0 := by
    unfold armP
    exact ((((Sub.atP 0 l[j]).right _).right _).right _).mono (Nat.zero_le _)
  have h2 := Sub.list [59, 32] (List.zipWith armP hs l) l[j].2 ⟨_, List.mem_iff_getElem.2 ⟨j, by rw [List.length_zipWith]; omega, List.getElem_zipWith⟩, h1⟩
  have h3 : tot [([123, 32] : Txt)] = 2 := rfl
  exact ((h2.left _).right [[123, 32]]).mono (by omega)
/-- the greatest level among nodes -/
def maxD : Int → List (Int × Ex) → Int
  | m, [] => m
  | m, (d, _) :: r => maxD (max m d) r
theorem maxD_append (m : Int) (a b : List (Int × Ex)) : maxD m (a ++ b) = maxD (maxD m a) b := by
  induction a generalizing m with
  | nil => rfl
  | cons x r ih => obtain ⟨d, x⟩ := x; exact ih _
theorem maxD_ge (m : Int) (a : List (Int × Ex)) : m ≤ maxD m a := by
  induction a generalizing m with
  | nil => exact Int.le_refl _
  | cons x r ih => obtain ⟨d, x⟩ := x; have := ih (max m d); unfold maxD; omega
mutual
theorem maxD_E : ∀ (e : Ex) (m d : Int), maxD m (nodesE d e) = max m (d - 1 + hE e)
  | .mk k n s t ns l ops bs, m, d => by
    have h1 := maxD_L l (max m d) (d + 1) (by omega)
    have h2 := maxD_L bs (max (max m d) (d + 1 - 1 + hL l)) (d + 1) (by omega)
    simp only [nodesE, maxD, maxD_append]
    rw [h1, h2]
    simp only [hE]
    omega
theorem maxD_L : ∀ (l : List Ex) (m d : Int), d - 1 ≤ m → maxD m (nodesL d l) = max m (d - 1 + hL l)
  | [], m, d, h => by simp [nodesL, maxD, hL]; omega
  | x :: r, m, d, h => by
    have h1 := maxD_E x m d
    have h2 := maxD_L r (max m (d - 1 + hE x)) d (by omega)
    simp only [nodesL, maxD_append, hL]
    rw [h1, h2]
    omega
end
theorem measF_maxD : ∀ (L : List (Int × Ex)) (s m : Int), (measF s m L).1 ≤ 3000 → (measF s m L).2 ≤ 200 → (measF s m L).2 = maxD m L
  | [], s, m, _, _ => by simp [measF, maxD]
  | (d, x) :: r, s, m, h1, h2 => by
    unfold measF at h1 h2 ⊢
    split at h1
    · rename_i hc
      rw [if_pos hc] at h2
      simp only at h1 h2
      omega
    · rename_i hc
      rw [if_neg hc] at h2 ⊢
      exact measF_maxD r _ _ h1 h2
theorem measF_val : ∀ (L : List (Int × Ex)) (s m : Int), s + L.length ≤ 3000 → maxD m L ≤ 200 → measF s m L = (s + L.length, maxD m L)
  | [], s, m, _, _ => by simp [measF, maxD]
  | (d, x) :: r, s, m, h1, h2 => by
    unfold measF maxD at *
    have h3 := maxD_ge (max m d) r
    rw [List.length_cons] at h1
    rw [if_neg (by omega), measF_val r (s + 1) (max m d) (by omega) h2, List.length_cons]
    congr 1
    omega
/-- what Check, Size and Depth say of a tree that is accepted -/
theorem msd_iff {e : Ex} : (msd chkN e).2.2 = 0 ↔ wfE e ∧ (nodesE 1 e).length ≤ 3000 ∧ hE e ≤ 200 := by
  have hm := maxD_E e 0 1
  constructor
  · intro h
    obtain ⟨h1, h2, h3, h4⟩ := msd_ok h
    refine ⟨h1, h2, ?_⟩
    unfold msd at h
    split at h
    · cases h
    · rename_i hc
      have := measF_maxD (nodesE 1 e) 0 0 (by omega) (by omega)
      omega
  · rintro ⟨h1, h2, h3⟩
    have hv := measF_val (nodesE 1 e) 0 0 (by omega) (by omega)
    have hf : firstF chkN (nodesE 1 e) = 0 := by
      have key : ∀ L : List (Int × Ex), (∀ q ∈ L, chkN q.2 = 0) → firstF chkN L = 0 := by
        intro L
        induction L with
        | nil => intro _; rfl
        | cons q r ih => intro h; obtain ⟨d, x⟩ := q; unfold firstF; rw [if_pos (h (d, x) (by simp))]; exact ih (fun q hq => h q (by simp [hq]))
      exact key _ h1
    unfold msd
    rw [hv, if_neg (by simp only; omega), if_pos hf]
theorem msd_val {e : Ex} (h : (msd chkN e).2.2 = 0) : msd chkN e = (((nodesE 1 e).length : Int), (hE e : Int), 0) := by
  obtain ⟨h1, h2, h3⟩ := msd_iff.1 h
  obtain ⟨_, _, g3, g4⟩ := msd_ok h
  have hm := maxD_E e 0 1
  have hv := measF_val (nodesE 1 e) 0 0 (by omega) (by omega)
  rw [hv] at g4
  have e1 : (msd chkN e).2.1 = (hE e : Int) := by rw [g4]; simp only; omega
  calc msd chkN e = ((msd chkN e).1, (msd chkN e).2.1, (msd chkN e).2.2) := rfl
    _ = _ := by rw [g3, e1, h]
theorem nodesL_len (l : List Ex) (d : Int) : (nodesL d l).length = (l.map fun x => (nodesE 1 x).length).sum := by
  induction l with
  | nil => rfl
  | cons x r ih => simp only [nodesL, List.length_append, List.map_cons, List.sum_cons]; rw [ih, nodesE_len d 1 x]
theorem size_parts (e : Ex) : (nodesE 1 e).length = 1 + (e.parts.map fun x => (nodesE 1 x).length).sum := by
  cases e with
  | mk k n s t ns l ops bs =>
    simp only [nodesE, List.length_cons, List.length_append, nodesL_len, Ex.parts, Ex.l, Ex.bs, List.map_append, List.sum_append]
    omega
theorem hL_append (a b : List Ex) : hL (a ++ b) = max (hL a) (hL b) := by
  induction a with
  | nil => simp [hL]
  | cons x r ih => rw [List.cons_append, hL, hL, ih]; omega
theorem depth_parts (e : Ex) : hE e = 1 + hL e.parts := by
  cases e with
  | mk k n s t ns l ops bs => simp only [hE, Ex.parts, Ex.l, Ex.bs, hL_append]
theorem sum_mem {l : List Ex} {x : Ex} (h : x ∈ l) : (nodesE 1 x).length ≤ (l.map fun x => (nodesE 1 x).length).sum := by
  induction l with
  | nil => simp at h
  | cons y r ih =>
    rw [List.map_cons, List.sum_cons]
    rcases List.mem_cons.1 h with rfl | h
    · omega
    · have := ih h; omega
/-- parts of an accepted tree are accepted -/
theorem part_ok {e x : Ex} (h : (msd chkN e).2.2 = 0) (hx : x ∈ e.parts) : (msd chkN x).2.2 = 0 := by
  obtain ⟨h1, h2, h3⟩ := msd_iff.1 h
  have hs := size_parts e
  have hd := depth_parts e
  have a1 := sum_mem hx
  have a2 := hL_mem hx
  refine msd_iff.2 ⟨?_, by omega, by omega⟩
  cases e with
  | mk k n s t ns l ops bs =>
    obtain ⟨_, g1, g2⟩ := h1.parts
    rcases List.mem_append.1 (show x ∈ l ++ bs from hx) with h | h
    · exact g1 x h
    · exact g2 x h
end Go.Proofs.YtbmicnajedeenaaGreatDoor
/- Trees whose nodes have as many heads of arms as bodies; what is not too large is not too deep; worlds of which all below is kept. -/
namespace Go.Proofs.YtbmicnajedeenaaGreatDoor
open Go.RowKit

/-- each node of a tree has as many heads of arms as bodies -/
def evn (e : Ex) : Prop := ∀ q ∈ nodesE 1 e, q.2.ops.length = q.2.bs.length
theorem evn.parts {k n : Int} {s t : Txt} {ns : List Txt} {l : List Ex} {ops : List (Txt × List Txt)} {bs : List Ex} (h : evn (.mk k n s t ns l ops bs)) : ops.length = bs.length ∧ (∀ x ∈ l, evn x) ∧ ∀ x ∈ bs, evn x := by
  refine ⟨h (1, .mk k n s t ns l ops bs) (by simp [nodesE]), fun x hx => nodesE_snd (fun e => e.ops.length = e.bs.length) x (1 + 1) 1 fun q hq => h q ?_, fun x hx => nodesE_snd (fun e => e.ops.length = e.bs.length) x (1 + 1) 1 fun q hq => h q ?_⟩
  · simp only [nodesE, List.mem_cons, List.mem_append]
    exact .inr (.inl (mem_nodesL hx hq))
  · simp only [nodesE, List.mem_cons, List.mem_append]
    exact .inr (.inr (mem_nodesL hx hq))
theorem mem_of_nodesL {d : Int} {q : Int × Ex} : ∀ {l : List Ex}, q ∈ nodesL d l → ∃ x ∈ l, q ∈ nodesE d x
  | [], h => by simp [nodesL] at h
  | x :: r, h => by
    simp only [nodesL, List.mem_append] at h
    rcases h with h | h
    · exact ⟨x, by simp, h⟩
    · obtain ⟨y, hy, hq⟩ := mem_of_nodesL h
      exact ⟨y, by simp [hy], hq⟩
theorem RepE.evn {P : Nat → Prop} {w : World} : ∀ (e : Ex), (∃ cs, RepE P w e cs) → Proofs.YtbmicnajedeenaaGreatDoor.evn e := by
  refine Ex.ind fun e ih h => ?_
  cases e with
  | mk k n s t ns l ops bs =>
    obtain ⟨cs, An, cn, Al, cl, Aa, ca, _, _, _, hl, ha, ho⟩ := h
    intro q hq
    simp only [nodesE, List.mem_cons, List.mem_append] at hq
    have up : ∀ x, Proofs.YtbmicnajedeenaaGreatDoor.evn x → ∀ q ∈ nodesE (1 + 1) x, q.2.ops.length = q.2.bs.length := fun x hx => nodesE_snd (fun e => e.ops.length = e.bs.length) x 1 (1 + 1) hx
    rcases hq with rfl | hq | hq
    · exact ho
    · obtain ⟨x, hx, hq⟩ := mem_of_nodesL hq
      obtain ⟨b, off, _, _, _, hr⟩ := hl (List.ne_nil_of_mem hx)
      obtain ⟨j, hj, rfl⟩ := List.getElem_of_mem hx
      obtain ⟨cs', _, _, hre⟩ := RepL.at hr (List.getElem?_eq_getElem hj)
      exact up _ (ih _ (by simp [Ex.parts, Ex.l, Ex.bs, hx]) ⟨cs', hre⟩) q hq
    · obtain ⟨x, hx, hq⟩ := mem_of_nodesL hq
      obtain ⟨b, off, _, _, _, hr⟩ := ha (List.ne_nil_of_mem hx)
      obtain ⟨j, hj, rfl⟩ := List.getElem_of_mem hx
      obtain ⟨o, _, _, _, cs', _, _, _, _, _, _, _, hre⟩ := RepA.at hr (List.getElem?_eq_getElem hj)
      exact up _ (ih _ (by simp [Ex.parts, Ex.l, Ex.bs, hx]) ⟨cs', hre⟩) q hq
mutual
theorem leftP_hE : ∀ (e : Ex) (nodes d : Int), evn e → 0 ≤ leftP e nodes d → (hE e : Int) ≤ d ∧ 0 < d ∧ e.l.length ≤ 50 ∧ e.bs.length ≤ 50
  | .mk k n s t ns l ops bs, nodes, d, hv, h => by
    obtain ⟨v1, v2, v3⟩ := hv.parts
    rw [leftP] at h
    split at h
    · omega
    · rename_i hc
      have c1 : ¬ d < 1 := fun h => hc (.inl h)
      have c2 : ¬ 50 < l.length := fun h => hc (.inr (.inr (.inr (.inr (.inl h)))))
      have c3 : ¬ 50 < bs.length := fun h => hc (.inr (.inr (.inr (.inr (.inr h)))))
      have h1 : 0 ≤ leftL l (nodes - 1) (d - 1) := by
        by_cases h0 : leftL l (nodes - 1) (d - 1) < 0
        · rw [leftA_neg _ _ _ _ h0] at h; omega
        · omega
      have g1 := leftL_hE l (nodes - 1) (d - 1) v2 h1
      have g2 := leftA_hE ops bs (leftL l (nodes - 1) (d - 1)) (d - 1) v1 v3 h
      simp only [hE, Ex.l, Ex.bs]
      have e1 : (hL l : Int) ≤ d - 1 := by
        rcases g1 with rfl | g1
        · simp only [hL]; omega
        · exact g1
      have e2 : (hL bs : Int) ≤ d - 1 := by
        rcases g2 with rfl | g2
        · simp only [hL]; omega
        · exact g2
      omega
theorem leftL_hE : ∀ (l : List Ex) (nodes d : Int), (∀ x ∈ l, evn x) → 0 ≤ leftL l nodes d → l = [] ∨ (hL l : Int) ≤ d
  | [], nodes, d, _, _ => .inl rfl
  | e :: r, nodes, d, hv, h => by
    rw [leftL] at h
    split at h
    · omega
    · have h1 : 0 ≤ leftP e nodes d := by
        by_cases h0 : leftP e nodes d < 0
        · rw [leftL_neg _ _ _ h0] at h; omega
        · omega
      have g1 := leftP_hE e nodes d (hv e (by simp)) h1
      have g2 := leftL_hE r _ d (fun x hx => hv x (by simp [hx])) h
      right
      rw [hL]
      rcases g2 with rfl | g2
      · simp only [hL]; omega
      · omega
theorem leftA_hE : ∀ (ops : List (Txt × List Txt)) (l : List Ex) (nodes d : Int), ops.length = l.length → (∀ x ∈ l, evn x) → 0 ≤ leftA ops l nodes d → l = [] ∨ (hL l : Int) ≤ d
  | _, [], nodes, d, _, _, _ => .inl rfl
  | [], e :: r, nodes, d, hl, _, _ => by simp at hl
  | o :: q, e :: r, nodes, d, hl, hv, h => by
    rw [leftA] at h
    split at h
    · omega
    · split at h
      · omega
      · have h1 : 0 ≤ leftP e nodes d := by
          by_cases h0 : leftP e nodes d < 0
          · rw [leftA_neg _ _ _ _ h0] at h; omega
          · omega
        have g1 := leftP_hE e nodes d (hv e (by simp)) h1
        have g2 := leftA_hE q r _ d (by simpa using hl) (fun x hx => hv x (by simp [hx])) h
        right
        rw [hL]
        rcases g2 with rfl | g2
        · simp only [hL]; omega
        · omega
end
theorem great_hE {e : Ex} (hv : evn e) (h : great e = false) : hE e ≤ 250 ∧ e.l.length ≤ 50 ∧ e.bs.length ≤ 50 := by
  unfold great at h
  have := leftP_hE e 4000 250 hv (by simpa using h)
  omega

/-- what has been since a world leaves all below alone -/
def PtS (w0 w : World) : Prop := Below w0.heap.size w0 w
theorem PtS.drew {w0 w : World} (h : PtS w0 w) : PtS w0 w.drew := Below.drew h
theorem PtS.below {w0 w w' : World} (hb : Below w.heap.size w w') (h : PtS w0 w) : PtS w0 w' := Below.trans h (hb.mono (Below.size h))
theorem PtS.all {w0 w : World} {b o : Nat} {u0 u1 u2 u3 u4 u5 u6 : Value} (hlt : b < w0.heap.size) (d0 : w0.cell? ⟨b, o, none⟩ = some u0) (d1 : w0.cell? ⟨b, o + 1, none⟩ = some u1) (d2 : w0.cell? ⟨b, o + 2, none⟩ = some u2) (d3 : w0.cell? ⟨b, o + 3, none⟩ = some u3) (d4 : w0.cell? ⟨b, o + 4, none⟩ = some u4) (d5 : w0.cell? ⟨b, o + 5, none⟩ = some u5) (d6 : w0.cell? ⟨b, o + 6, none⟩ = some u6) (h : PtS w0 w) :
    w.cell? ⟨b, o, none⟩ = some u0 ∧ w.cell? ⟨b, o + 1, none⟩ = some u1 ∧ w.cell? ⟨b, o + 2, none⟩ = some u2 ∧ w.cell? ⟨b, o + 3, none⟩ = some u3 ∧ w.cell? ⟨b, o + 4, none⟩ = some u4 ∧ w.cell? ⟨b, o + 5, none⟩ = some u5 ∧ w.cell? ⟨b, o + 6, none⟩ = some u6 ∧ PtS w0 w := by
  have k : ∀ o, w.cell? ⟨b, o, none⟩ = w0.cell? ⟨b, o, none⟩ := fun o => Below.cell (p := ⟨b, o, none⟩) h hlt
  exact ⟨(k _).trans d0, (k _).trans d1, (k _).trans d2, (k _).trans d3, (k _).trans d4, (k _).trans d5, (k _).trans d6, h⟩
theorem show_ok {e : Ex} (h : (msd chkN e).2.2 = 0) : showS e = (textE e, 0) := by unfold showS; exact if_pos h

end Go.Proofs.YtbmicnajedeenaaGreatDoor
/- Lists of strings, compared: the reference's SameNames, slices.Equal. -/
namespace Go.Proofs.YtbmicnajedeenaaGreatDoor
open Go.RowKit

/-- a world that has only drawn -/
def Qt (w w' : World) : Prop := ∃ q, w' = w.drewN q
theorem Qt.refl (w : World) : Qt w w := ⟨0, rfl⟩
theorem Qt.drew {w w' : World} (h : Qt w w') : Qt w w'.drew := by
  obtain ⟨q, rfl⟩ := h
  exact ⟨q + 1, by simp [World.drewN, World.drew, Nat.add_assoc]⟩
theorem Qt.cell {w w' : World} (h : Qt w w') (a : Addr) : w'.cell? a = w.cell? a := by
  obtain ⟨q, rfl⟩ := h; rfl
theorem Qt.below {w w' : World} (h : Qt w w') : Below w.heap.size w w' := by
  obtain ⟨q, rfl⟩ := h
  exact ⟨rfl, rfl, rfl, Nat.le_refl _, fun _ _ => rfl⟩
set_option maxRecDepth 100000 in
set_option maxHeartbeats 2000000 in
theorem sameNames_any (P Q : Nat → Prop) (A B : Option Addr) (c d : Nat) (L M : List Txt) (w : World) (hL : NamesAt P w A L) (hM : NamesAt Q w B M) (hl : L.length ≤ maxLen ∧ M.length ≤ maxLen) :
    Calls Tryz.prog 25 #[.slice A L.length c, .slice B M.length d] w fun e w' => e = .returned (.bool (decide (L = M))) ∧ Qt w w' := by
  obtain ⟨n, hn⟩ : ∃ n, n = L.length := ⟨_, rfl⟩
  obtain ⟨m, hm⟩ : ∃ n, n = M.length := ⟨_, rfl⟩
  have hl1 : (n : Int) ≤ 9223372036854775807 := by have := hl.1; unfold maxLen at this; omega
  have hl2 : (m : Int) ≤ 9223372036854775807 := by have := hl.2; unfold maxLen at this; omega
  have HL := Lib.hid hL
  have HM := Lib.hid hM
  have HN := Lib.hid hn
  have HNm := Lib.hid hm
  rw [← hn, ← hm]
  obtain ⟨r, hr⟩ : ∃ r, r = decide (L = M) := ⟨_, rfl⟩
  rw [← hr]
  clear hL hM hn hm hl
  by_cases hnm : n = m
  · subst hnm
    have h1 : ((n : Int) != (n : Int)) = false := by simp
    have HR := Lib.hid hr
    clear hr
    go_enter Tryz.func25, Tryz.ntmps25
    go_wp2_with fail
    go_loopw [5] (fun i wr => ∃ k : Nat, k ≤ n ∧ i = .int .i64 (k : Int) ∧ Hid (Qt w wr) ∧ Hid (L.take k = M.take k)) (fun i _ => n - (intOf i).toNat)
    case atStart => exact ⟨0, Nat.zero_le _, rfl, Lib.hid (Qt.refl _), Lib.hid rfl⟩
    case round =>
      obtain ⟨k, hk, rfl, hB, hE⟩ := hrel
      by_cases hkn : k < n
      · have hk1 : k < L.length := by rw [← HN.out]; exact hkn
        have hk2 : k < M.length := by rw [← HNm.out]; exact hkn
        obtain ⟨b, off, rfl, _, hlt, hc⟩ := HL.out (List.ne_nil_of_length_pos (by omega))
        obtain ⟨b2, off2, rfl, _, hlt2, hc2⟩ := HM.out (List.ne_nil_of_length_pos (by omega))
        have d1 := (hB.out.cell ⟨b, _, none⟩).trans (hc k L[k] (List.getElem?_eq_getElem hk1))
        have d2 := (hB.out.cell ⟨b2, _, none⟩).trans (hc2 k M[k] (List.getElem?_eq_getElem hk2))
        have i0 : (0 : Int) ≤ (k : Int) := by omega
        have i1 : (k : Int) < (n : Int) := by omega
        by_cases he : L[k] = M[k]
        · have HE : Hid (L.take (k + 1) = M.take (k + 1)) := Lib.hid (by rw [take_succ_of hk1, take_succ_of hk2, hE.out, he])
          rw [← he] at d2
          obtain ⟨x, hx⟩ : ∃ x, x = strB L[k] := ⟨_, rfl⟩
          rw [← hx] at d1 d2
          clear hc hc2 he hx hlt hlt2
          go_wp2_with fail
          go_region_held3 (fun w' => w'.cell? ⟨b, off + k, none⟩ = some (.string x) ∧ w'.cell? ⟨b2, off2 + k, none⟩ = some (.string x) ∧ Qt w w')
            ((exact ⟨d1, d2, hB.out.drew⟩))
            (fail)
          rename_i hh
          have HB2 := Lib.hid hh.2.2
          clear hh d1 d2
          go_wp2_with fail
          go_roundw
          case rel => exact ⟨k + 1, by omega, by go_num, HB2, HE⟩
          case measure => simp [intOf]; omega
        · have HRf : Hid (r = false) := Lib.hid (by
            rw [HR.out]
            refine decide_eq_false (fun h => he ?_)
            subst h; rfl)
          have hne : ((strB L[k]).toList == (strB M[k]).toList) = false := by
            rw [ByteArray.toList_eq, ByteArray.toList_eq, data_strB, data_strB]; exact beq_eq_false_iff_ne.2 he
          obtain ⟨x, hx⟩ : ∃ x, x = strB L[k] := ⟨_, rfl⟩
          obtain ⟨y, hy⟩ : ∃ x, x = strB M[k] := ⟨_, rfl⟩
          rw [← hx] at d1 hne
          rw [← hy] at d2 hne
          clear hc hc2 he hx hy hlt hlt2
          go_wp2_with fail
          go_region_held3 (fun w' => w'.cell? ⟨b, off + k, none⟩ = some (.string x) ∧ w'.cell? ⟨b2, off2 + k, none⟩ = some (.string y) ∧ Qt w w')
            ((exact ⟨d1, d2, hB.out.drew⟩))
            (fail)
          rename_i hh
          have HB2 := Lib.hid hh.2.2
          clear hh d1 d2
          go_wp2_with fail
          go_ret
          exact ⟨by rw [HRf.out]; rfl, HB2.out⟩
      · obtain rfl : k = n := by omega
        have HRt : Hid (r = true) := Lib.hid (by
          rw [HR.out]
          refine decide_eq_true ?_
          have h := hE.out
          rw [List.take_of_length_le (by rw [← HN.out]; exact Nat.le_refl _), List.take_of_length_le (by rw [← HNm.out]; exact Nat.le_refl _)] at h
          exact h)
        go_wp2_with fail
        go_ret
        exact ⟨by rw [HRt.out]; rfl, hB.out⟩
  · have HR : Hid (r = false) := Lib.hid (by rw [hr]; exact decide_eq_false (fun h => hnm (by rw [HN.out, HNm.out, h])))
    have h1 : ((n : Int) != (m : Int)) = true := by simp; omega
    have h2 : ((n : Int) == (m : Int)) = false := by simp; omega
    clear hr hnm
    go_enter Tryz.func25, Tryz.ntmps25
    go_wp2_with fail
    go_ret
    exact ⟨by rw [HR.out]; rfl, Qt.refl _⟩
end Go.Proofs.YtbmicnajedeenaaGreatDoor
/- Types in memory: parts, boxes; how deep; what the statements hold for too large. -/
namespace Go.Proofs.YtbmicnajedeenaaGreatDoor
open Go.RowKit

theorem LabsAt.tight {P : Nat → Prop} {w : World} {A : Option Addr} {L : List (List UInt8 × Int)} (h : LabsAt P w A L) : LabsAt (fun x => x < w.heap.size) w A L := fun h0 => by
  obtain ⟨b, off, e, _, hlt, hc⟩ := h h0
  exact ⟨b, off, e, hlt, hlt, hc⟩
mutual
theorem RepT.tight {P : Nat → Prop} {w : World} : ∀ {e : Ty} {cs : List Value}, RepT P w e cs → RepT (fun x => x < w.heap.size) w e cs
  | .mk k n s l ls tl, cs, h => by
    obtain ⟨Al, cl, Ar, cr, e, hf, hn, hl⟩ := h
    refine ⟨Al, cl, Ar, cr, e, hf, hn.tight, fun h0 => ?_⟩
    obtain ⟨b, off, e, _, hlt, hr⟩ := hl h0
    exact ⟨b, off, e, hlt, hlt, RepTL.tight hr⟩
theorem RepTL.tight {P : Nat → Prop} {w : World} {b : Nat} : ∀ {l : List Ty} {off : Nat}, RepTL P w b off l → RepTL (fun x => x < w.heap.size) w b off l
  | [], _, _ => trivial
  | _ :: _, _, h => by
    obtain ⟨⟨cs, h7, hc, he⟩, hr⟩ := h
    exact ⟨⟨cs, h7, hc, RepT.tight he⟩, RepTL.tight hr⟩
end
/-- a type's six cells fill block g -/
def TyBx (w : World) (g : Nat) (v0 v1 v2 v3 v4 v5 : Value) : Prop := w.heap[g]? = some (.cells #[v0, v1, v2, v3, v4, v5] 63 (0, 0))
section
variable {w w' : World} {g : Nat} {v0 v1 v2 v3 v4 v5 : Value}
theorem TyBx.lt (h : TyBx w g v0 v1 v2 v3 v4 v5) : g < w.heap.size := (Array.getElem?_eq_some_iff.1 h).1
theorem TyBx.c (h : TyBx w g v0 v1 v2 v3 v4 v5) : w.cell? ⟨g, 0, none⟩ = some v0 ∧ w.cell? ⟨g, 1, none⟩ = some v1 ∧ w.cell? ⟨g, 2, none⟩ = some v2 ∧ w.cell? ⟨g, 3, none⟩ = some v3 ∧ w.cell? ⟨g, 4, none⟩ = some v4 ∧ w.cell? ⟨g, 5, none⟩ = some v5 :=
  ⟨cell_of_row w g 0 _ _ (0, 0) h, cell_of_row w g 1 _ _ (0, 0) h, cell_of_row w g 2 _ _ (0, 0) h, cell_of_row w g 3 _ _ (0, 0) h, cell_of_row w g 4 _ _ (0, 0) h, cell_of_row w g 5 _ _ (0, 0) h⟩
theorem TyBx.new (w : World) (v0 v1 v2 v3 v4 v5 : Value) : TyBx (w.alloc (.cells #[v0, v1, v2, v3, v4, v5] 63)) w.heap.size v0 v1 v2 v3 v4 v5 := heap_alloc_new w _
theorem TyBx.kept (h : TyBx w g v0 v1 v2 v3 v4 v5) {row : Option Nat} (hg : w.grownBy w' row) (hne : some g ≠ row) : TyBx w' g v0 v1 v2 v3 v4 v5 := (hg.block g h.lt hne).trans h
end
/-- the cells of a part of a type -/
structure TCells (B : Nat) (w : World) (b o : Nat) (e : Ty) (k n : Int) (s : ByteArray) (A0 : Option Addr) (n0 c0 : Nat) (A1 : Option Addr) (n1 c1 : Nat) (tl : Int) : Prop where
  rep : RepT (fun b => b < B) w e [.int .i64 k, .int .i64 n, .string s, .slice A0 n0 c0, .slice A1 n1 c1, .int .i64 tl]
  d0 : w.cell? ⟨b, o, none⟩ = some (.int .i64 k)
  d1 : w.cell? ⟨b, o + 1, none⟩ = some (.int .i64 n)
  d2 : w.cell? ⟨b, o + 2, none⟩ = some (.string s)
  d3 : w.cell? ⟨b, o + 3, none⟩ = some (.slice A0 n0 c0)
  d4 : w.cell? ⟨b, o + 4, none⟩ = some (.slice A1 n1 c1)
  d5 : w.cell? ⟨b, o + 5, none⟩ = some (.int .i64 tl)
def TParts (B : Nat) (w : World) (A : Option Addr) (l : List Ty) : Prop :=
  l ≠ [] → ∃ b off, A = some ⟨b, off, none⟩ ∧ b < B ∧ b < w.heap.size ∧ ∀ j e, l[j]? = some e → ∃ k n s A0 n0 c0 A1 n1 c1 tl, TCells B w b (off + j * 6) e k n s A0 n0 c0 A1 n1 c1 tl
theorem tparts_of {B : Nat} {w : World} {l : List Ty} {Al : Option Addr} (h : l ≠ [] → ∃ b off, Al = some ⟨b, off, none⟩ ∧ b < B ∧ b < w.heap.size ∧ RepTL (fun b => b < B) w b off l) : TParts B w Al l := fun h0 => by
  obtain ⟨b, off, rfl, hb, hlt, hr⟩ := h h0
  refine ⟨b, off, rfl, hb, hlt, fun j e hj => ?_⟩
  obtain ⟨cs, h7, hc, hr⟩ := RepTL.at hr hj
  obtain ⟨k, n, s, A0, n0, c0, A1, n1, c1, tl, rfl⟩ := hr.shape
  exact ⟨k, n, s, A0, n0, c0, A1, n1, c1, tl, hr, hc 0 _ rfl, hc 1 _ rfl, hc 2 _ rfl, hc 3 _ rfl, hc 4 _ rfl, hc 5 _ rfl⟩
theorem TParts.below {B : Nat} {w w' : World} {A : Option Addr} {l : List Ty} (h : TParts B w A l) (hb : Below w.heap.size w w') : TParts B w' A l := fun h0 => by
  obtain ⟨b, off, e, h1, h2, hc⟩ := h h0
  have kk : ∀ o, w'.cell? ⟨b, o, none⟩ = w.cell? ⟨b, o, none⟩ := fun o => Below.cell (p := ⟨b, o, none⟩) hb h2
  refine ⟨b, off, e, h1, Nat.lt_of_lt_of_le h2 hb.size, fun j e hj => ?_⟩
  obtain ⟨k, n, s, A0, n0, c0, A1, n1, c1, tl, H⟩ := hc j e hj
  exact ⟨k, n, s, A0, n0, c0, A1, n1, c1, tl, H.rep.keep (Same.of_below hb), (kk _).trans H.d0, (kk _).trans H.d1, (kk _).trans H.d2, (kk _).trans H.d3, (kk _).trans H.d4, (kk _).trans H.d5⟩
theorem TParts.addr {B : Nat} {w : World} {A : Option Addr} {l : List Ty} (h : TParts B w A l) (h0 : 0 < l.length) : ∃ b off, A = some ⟨b, off, none⟩ := by
  obtain ⟨b, off, e, _⟩ := h (List.ne_nil_of_length_pos h0)
  exact ⟨b, off, e⟩
theorem TParts.at {B : Nat} {w : World} {b off : Nat} {l : List Ty} (h : TParts B w (some ⟨b, off, none⟩) l) {j : Nat} {e : Ty} (hj : l[j]? = some e) : b < w.heap.size ∧ ∃ k n s A0 n0 c0 A1 n1 c1 tl, TCells B w b (off + j * 6) e k n s A0 n0 c0 A1 n1 c1 tl := by
  obtain ⟨b', off', e', hb, hlt, hc⟩ := h (fun h0 => by rw [h0] at hj; simp at hj)
  injection e' with e'
  injection e' with e1 e2 e3
  subst e1; subst e2
  exact ⟨hlt, hc j e hj⟩
theorem TCells.up {B b o : Nat} {w W1 : World} {e : Ty} {k n : Int} {s : ByteArray} {A0 : Option Addr} {n0 c0 : Nat} {A1 : Option Addr} {n1 c1 : Nat} {tl : Int} (h : TCells B w b o e k n s A0 n0 c0 A1 n1 c1 tl) (hb : b < w.heap.size) (hB : Below w.heap.size w W1) :
    W1.cell? ⟨b, o, none⟩ = some (.int .i64 k) ∧ W1.cell? ⟨b, o + 1, none⟩ = some (.int .i64 n) ∧ W1.cell? ⟨b, o + 2, none⟩ = some (.string s) ∧ W1.cell? ⟨b, o + 3, none⟩ = some (.slice A0 n0 c0) ∧ W1.cell? ⟨b, o + 4, none⟩ = some (.slice A1 n1 c1) ∧ W1.cell? ⟨b, o + 5, none⟩ = some (.int .i64 tl) := by
  have k : ∀ o, W1.cell? ⟨b, o, none⟩ = w.cell? ⟨b, o, none⟩ := fun o => Below.cell (p := ⟨b, o, none⟩) hB hb
  exact ⟨(k _).trans h.d0, (k _).trans h.d1, (k _).trans h.d2, (k _).trans h.d3, (k _).trans h.d4, (k _).trans h.d5⟩

mutual
def hT : Ty → Nat
  | .mk _ _ _ l _ _ => 1 + hTL l
def hTL : List Ty → Nat
  | [] => 0
  | x :: r => max (hT x) (hTL r)
end
theorem hTL_mem : ∀ {l : List Ty} {x : Ty}, x ∈ l → hT x ≤ hTL l
  | y :: r, x, h => by
    rcases List.mem_cons.1 h with rfl | h
    · rw [hTL]; exact Nat.le_max_left _ _
    · rw [hTL]; exact Nat.le_trans (hTL_mem h) (Nat.le_max_right _ _)
theorem hT_eq (t : Ty) : hT t = 1 + hTL t.l := by cases t; rw [hT]; rfl

/-- some label's name is too long -/
def longLs (ls : List (Txt × Int)) : Bool := ls.any fun x => decide (100 < x.1.length)
mutual
/-- how many more nodes there may be; below 0: there are more -/
def tleftP : Ty → Int → Int → Int
  | .mk _ _ s l ls _, nodes, d => if d < 1 ∨ 100 < s.length ∨ 50 < l.length ∨ 50 < ls.length ∨ longLs ls = true then -1 else tleftL l (nodes - 1) (d - 1)
def tleftL : List Ty → Int → Int → Int
  | [], nodes, _ => nodes
  | e :: r, nodes, d => if nodes < 0 then nodes else tleftL r (tleftP e nodes d) d
end
theorem tleftL_neg (l : List Ty) (nodes d : Int) (h : nodes < 0) : tleftL l nodes d = nodes := by
  cases l with
  | nil => rfl
  | cons e r => rw [tleftL, if_pos h]
mutual
theorem tleftP_le : ∀ (e : Ty) (nodes d : Int), 0 ≤ nodes → tleftP e nodes d ≤ nodes ∧ -1 ≤ tleftP e nodes d
  | .mk k n s l ls tl, nodes, d, h => by
    rw [tleftP]
    split
    · omega
    · have h1 := tleftL_le l (nodes - 1) (d - 1) (by omega)
      omega
theorem tleftL_le : ∀ (l : List Ty) (nodes d : Int), -1 ≤ nodes → tleftL l nodes d ≤ nodes ∧ -1 ≤ tleftL l nodes d
  | [], nodes, d, h => by rw [tleftL]; omega
  | e :: r, nodes, d, h => by
    rw [tleftL]
    split
    · omega
    · have h1 := tleftP_le e nodes d (by omega)
      have h2 := tleftL_le r (tleftP e nodes d) d h1.2
      omega
end
theorem tleftL_snoc : ∀ (l : List Ty) (e : Ty) (nodes d : Int), tleftL (l ++ [e]) nodes d = if tleftL l nodes d < 0 then tleftL l nodes d else tleftP e (tleftL l nodes d) d
  | [], e, nodes, d => by simp only [List.nil_append, tleftL]; rfl
  | x :: r, e, nodes, d => by
    rw [List.cons_append, tleftL, tleftL]
    by_cases h : nodes < 0
    · simp only [if_pos h]
    · simp only [if_neg h]
      exact tleftL_snoc r e _ d
theorem tleftL_app : ∀ (a b : List Ty) (nodes d : Int), tleftL (a ++ b) nodes d = tleftL b (tleftL a nodes d) d
  | [], b, nodes, d => by rw [List.nil_append, tleftL]
  | x :: r, b, nodes, d => by
    rw [List.cons_append, tleftL, tleftL]
    by_cases h : nodes < 0
    · simp only [if_pos h]; rw [tleftL_neg _ _ _ h]
    · simp only [if_neg h]; exact tleftL_app r b _ d
theorem tleftL_end {l : List Ty} {j : Nat} {nodes d N : Int} (hN : N = tleftL (l.take j) nodes d) (h : N < 0 ∨ l.length ≤ j) : N = tleftL l nodes d := by
  rcases h with h | h
  · have := tleftL_app (l.take j) (l.drop j) nodes d
    rw [List.take_append_drop, ← hN, tleftL_neg _ _ _ h] at this
    exact this.symm
  · rw [hN, List.take_of_length_le h]
theorem tleftL_step {l : List Ty} {j : Nat} {nodes d N : Int} {e : Ty} (hN : N = tleftL (l.take j) nodes d) (h : 0 ≤ N) (he : l[j]? = some e) : tleftP e N d = tleftL (l.take (j + 1)) nodes d := by
  have hj := (List.getElem?_eq_some_iff.1 he).1
  rw [List.take_succ_eq_append_getElem hj, tleftL_snoc, ← hN, if_neg (by omega)]
  rw [List.getElem?_eq_getElem hj, Option.some.injEq] at he
  rw [he]
mutual
theorem tleftP_hT : ∀ (e : Ty) (nodes d : Int), 0 ≤ tleftP e nodes d → (hT e : Int) ≤ d
  | .mk k n s l ls tl, nodes, d, h => by
    rw [tleftP] at h
    split at h
    · omega
    · rename_i hc
      have c1 : ¬ d < 1 := fun h => hc (.inl h)
      have g1 := tleftL_hT l (nodes - 1) (d - 1) h
      rw [hT]
      rcases g1 with rfl | g1
      · simp only [hTL]; omega
      · omega
theorem tleftL_hT : ∀ (l : List Ty) (nodes d : Int), 0 ≤ tleftL l nodes d → l = [] ∨ (hTL l : Int) ≤ d
  | [], nodes, d, _ => .inl rfl
  | e :: r, nodes, d, h => by
    rw [tleftL] at h
    split at h
    · omega
    · have h1 : 0 ≤ tleftP e nodes d := by
        by_cases h0 : tleftP e nodes d < 0
        · rw [tleftL_neg _ _ _ h0] at h; omega
        · omega
      have g1 := tleftP_hT e nodes d h1
      have g2 := tleftL_hT r _ d h
      right
      rw [hTL]
      rcases g2 with rfl | g2
      · simp only [hTL]; omega
      · omega
end
def greatT (t : Ty) : Bool := decide (tleftP t 4000 250 < 0)
theorem greatT_hT {t : Ty} (h : greatT t = false) : hT t ≤ 250 := by
  unfold greatT at h
  have := tleftP_hT t 4000 250 (by simpa using h)
  omega
end Go.Proofs.YtbmicnajedeenaaGreatDoor
/- The reference's word, IsVar, IsUpper. -/
namespace Go.Proofs.YtbmicnajedeenaaGreatDoor
open Go.RowKit

end Go.Proofs.YtbmicnajedeenaaGreatDoor
/- The reference's classes of names, and lists of variable names. -/
namespace Go.Proofs.YtbmicnajedeenaaGreatDoor
open Go.RowKit

/-- the reference's classes: 3 are the primitives -/
def rCls (n : Int) (s : List UInt8) : Bool := if n = 1 then isV s else if n = 2 then isNm 2 s else if n = 3 then [[43], [45], [42], [60], [61, 61]].contains s else s == []
end Go.Proofs.YtbmicnajedeenaaGreatDoor
/- The first error of a row, and the reference's row. -/
namespace Go.Proofs.YtbmicnajedeenaaGreatDoor
open Go.RowKit

/-- a label's first error -/
def labErr (x : Txt × Int) : Int := if isNm 2 x.1 = false then 4 else if (decide (0 ≤ x.2) && decide (x.2 ≤ 999999999)) = false then 1 else 0
/-- the first error of labels -/
def labsErr : List (Txt × Int) → Int
  | [] => 0
  | x :: r => if labErr x = 0 then labsErr r else labErr x
def rowErr (ls : List (Txt × Int)) (tl : Int) : Int := if labsErr ls = 0 then (if (decide (-1 ≤ tl) && decide (tl ≤ 999999999)) = false then 1 else 0) else labsErr ls
theorem labsErr_snoc : ∀ (l : List (Txt × Int)) (x : Txt × Int), labsErr l = 0 → labsErr (l ++ [x]) = labErr x
  | [], x, _ => by
    rw [List.nil_append, labsErr, labsErr]
    by_cases h : labErr x = 0
    · rw [if_pos h, h]
    · rw [if_neg h]
  | y :: r, x, h => by
    rw [labsErr] at h
    by_cases h0 : labErr y = 0
    · rw [if_pos h0] at h
      rw [List.cons_append, labsErr, if_pos h0]
      exact labsErr_snoc r x h
    · rw [if_neg h0] at h
      exact absurd h h0
end Go.Proofs.YtbmicnajedeenaaGreatDoor
/- A type's first error, plainly; the reference's built-in names. -/
namespace Go.Proofs.YtbmicnajedeenaaGreatDoor
open Go.RowKit

/-- the names of the built-in types -/
def biT : List Txt := [[73, 110, 116], [66, 111, 111, 108], [85, 110, 105, 116]]
/-- the class of the name that a kind of types uses -/
def tyCls (k : Int) : Int := if k = 1 then 1 else if k = 6 then 2 else 0
/-- the first error of a type's node, without its parts: nl parts -/
def tyNode (k n : Int) (s : Txt) (nl : Nat) (ls : List (Txt × Int)) (tl : Int) : Int :=
  if (decide (0 ≤ k) && decide (k ≤ 6)) = false ∨ (decide (0 ≤ n) && decide (n ≤ 999999999)) = false ∨ (k ≠ 0 ∧ n ≠ 0) then 1
  else if rCls (tyCls k) s = false ∨ (k = 6 ∧ biT.contains s = true) then 4
  else if (k = 5 ∧ nl ≠ 2) ∨ (k = 6 ∧ 4 < nl) ∨ (k ≠ 5 ∧ k ≠ 6 ∧ 0 < nl) then 7
  else if k ≠ 5 ∧ (0 < ls.length ∨ tl ≠ 0) then 1
  else if k = 5 then rowErr ls tl else 0
end Go.Proofs.YtbmicnajedeenaaGreatDoor
/- The program's check of a type's node: built-in names, names of data types, the table of what kinds of types use. -/
namespace Go.Proofs.YtbmicnajedeenaaGreatDoor
open Go.RowKit

def btRes (s : Txt) : Int := if s = [73, 110, 116] then 2 else if s = [66, 111, 111, 108] then 3 else if s = [85, 110, 105, 116] then 4 else 0
theorem biT_iff (s : Txt) : biT.contains s = (decide (s = [73, 110, 116]) || (decide (s = [66, 111, 111, 108]) || decide (s = [85, 110, 105, 116]))) := by
  unfold biT
  simp only [List.contains, List.elem_eq_mem, List.mem_cons, List.not_mem_nil, or_false]
  by_cases h1 : s = [73, 110, 116] <;> by_cases h2 : s = [66, 111, 111, 108] <;> by_cases h3 : s = [85, 110, 105, 116] <;> simp [h1, h2, h3]
set_option maxRecDepth 100000 in
set_option maxHeartbeats 1000000 in
theorem builtInType_any (s : Txt) (w : World) : Calls Tryz.prog 128 #[.string (strB s)] w fun e w' => e = .returned (.tuple #[.int .i64 (btRes s), .bool (biT.contains s)]) ∧ w = w' := by
  rw [biT_iff]
  obtain ⟨S, hS⟩ : ∃ S, S = strB s := ⟨_, rfl⟩
  rw [← hS]
  by_cases h1 : s = [73, 110, 116]
  · have q1 := eq_list hS h1
    have HR := Lib.hid (show btRes s = 2 ∧ (decide (s = [73, 110, 116]) || (decide (s = [66, 111, 111, 108]) || decide (s = [85, 110, 105, 116]))) = true by unfold btRes; simp [h1])
    obtain ⟨v1, hv1⟩ : ∃ v, v = btRes s := ⟨_, rfl⟩
    obtain ⟨v2, hv2⟩ : ∃ v, v = (decide (s = [73, 110, 116]) || (decide (s = [66, 111, 111, 108]) || decide (s = [85, 110, 105, 116]))) := ⟨_, rfl⟩
    rw [← hv1, ← hv2] at HR ⊢
    clear hS h1 hv1 hv2
    go_enter Tryz.func128, Tryz.ntmps128
    go_wp2_with fail
    go_ret2
    exact ⟨by rw [HR.out.1, HR.out.2]; rfl, rfl⟩
  have q1 := ne_list hS h1
  by_cases h2 : s = [66, 111, 111, 108]
  · have q2 := eq_list hS h2
    have HR := Lib.hid (show btRes s = 3 ∧ (decide (s = [73, 110, 116]) || (decide (s = [66, 111, 111, 108]) || decide (s = [85, 110, 105, 116]))) = true by unfold btRes; simp [h2])
    obtain ⟨v1, hv1⟩ : ∃ v, v = btRes s := ⟨_, rfl⟩
    obtain ⟨v2, hv2⟩ : ∃ v, v = (decide (s = [73, 110, 116]) || (decide (s = [66, 111, 111, 108]) || decide (s = [85, 110, 105, 116]))) := ⟨_, rfl⟩
    rw [← hv1, ← hv2] at HR ⊢
    clear hS h1 h2 hv1 hv2
    go_enter Tryz.func128, Tryz.ntmps128
    go_wp2_with fail
    go_ret2
    exact ⟨by rw [HR.out.1, HR.out.2]; rfl, rfl⟩
  have q2 := ne_list hS h2
  by_cases h3 : s = [85, 110, 105, 116]
  · have q3 := eq_list hS h3
    have HR := Lib.hid (show btRes s = 4 ∧ (decide (s = [73, 110, 116]) || (decide (s = [66, 111, 111, 108]) || decide (s = [85, 110, 105, 116]))) = true by unfold btRes; simp [h3])
    obtain ⟨v1, hv1⟩ : ∃ v, v = btRes s := ⟨_, rfl⟩
    obtain ⟨v2, hv2⟩ : ∃ v, v = (decide (s = [73, 110, 116]) || (decide (s = [66, 111, 111, 108]) || decide (s = [85, 110, 105, 116]))) := ⟨_, rfl⟩
    rw [← hv1, ← hv2] at HR ⊢
    clear hS h1 h2 h3 hv1 hv2
    go_enter Tryz.func128, Tryz.ntmps128
    go_wp2_with fail
    go_ret2
    exact ⟨by rw [HR.out.1, HR.out.2]; rfl, rfl⟩
  have q3 := ne_list hS h3
  have HR := Lib.hid (show btRes s = 0 ∧ (decide (s = [73, 110, 116]) || (decide (s = [66, 111, 111, 108]) || decide (s = [85, 110, 105, 116]))) = false by unfold btRes; simp [h1, h2, h3])
  obtain ⟨v1, hv1⟩ : ∃ v, v = btRes s := ⟨_, rfl⟩
  obtain ⟨v2, hv2⟩ : ∃ v, v = (decide (s = [73, 110, 116]) || (decide (s = [66, 111, 111, 108]) || decide (s = [85, 110, 105, 116]))) := ⟨_, rfl⟩
  rw [← hv1, ← hv2] at HR ⊢
  clear hS h1 h2 h3 hv1 hv2
  go_enter Tryz.func128, Tryz.ntmps128
  go_wp2_with fail
  go_ret2
  exact ⟨by rw [HR.out.1, HR.out.2]; rfl, rfl⟩

/-- whether a string is of a class of names (of those that types use) -/
def nameHasT (c : Int) (s : Txt) : Bool := if c = 3 then isNm 2 s && !biT.contains s else nameHas c s
set_option maxRecDepth 100000 in
set_option maxHeartbeats 1000000 in
theorem nameHasT_any (c : Int) (s : Txt) (hc : c = 0 ∨ c = 1 ∨ c = 3) (hs : s.length ≤ maxLen) (w : World) : Calls Tryz.prog 90 #[.int .u8 c, .string (strB s)] w fun e w' => e = .returned (.bool (nameHasT c s)) ∧ Below w.heap.size w w' := by
  unfold nameHasT
  by_cases h3 : c = 3
  · subst h3
    rw [if_pos rfl]
    have hsz : (strB s).size ≤ maxLen := by rw [strB_size]; exact hs
    have HU := Lib.hid (fun w => IsUpper_any (strB s) w hsz)
    rw [data_strB] at HU
    have HB := Lib.hid (fun w => builtInType_any s w)
    obtain ⟨k, hk⟩ : ∃ k, k = btRes s := ⟨_, rfl⟩
    obtain ⟨u, hu⟩ : ∃ k, k = isNm 2 s := ⟨_, rfl⟩
    obtain ⟨b, hb⟩ : ∃ k, k = biT.contains s := ⟨_, rfl⟩
    obtain ⟨S, hS⟩ : ∃ S, S = strB s := ⟨_, rfl⟩
    rw [← hk, ← hb, ← hS] at HB
    rw [← hu, ← hS] at HU
    rw [← hu, ← hb, ← hS]
    clear hk hu hb hS hsz hs hc
    cases u
    · go_enter Tryz.func90, Tryz.ntmps90
      go_wp2_with fail
      refine (HB.out _).mono ?_
      rintro e w' ⟨rfl, rfl⟩
      go_wp2_with fail
      refine (HU.out _).mono ?_
      rintro e w' ⟨rfl, hb⟩
      have HB2 := Lib.hid hb
      clear hb
      go_wp2_with fail
      go_ret
      exact ⟨rfl, HB2.out⟩
    · cases b
      all_goals
        go_enter Tryz.func90, Tryz.ntmps90
        go_wp2_with fail
        refine (HB.out _).mono ?_
        rintro e w' ⟨rfl, rfl⟩
        go_wp2_with fail
        refine (HU.out _).mono ?_
        rintro e w' ⟨rfl, hb⟩
        have HB2 := Lib.hid hb
        clear hb
        go_wp2_with fail
        go_ret
        exact ⟨rfl, HB2.out⟩
  · rw [if_neg h3]
    exact nameHas_any c s (by omega) hs w

/-- what each kind of types uses -/
def tyTab : List (List Int) := [[2, 0, 0, 0, 0, 0, 0, 0], [0, 1, 0, 0, 0, 0, 0, 0], [0, 0, 0, 0, 0, 0, 0, 0], [0, 0, 0, 0, 0, 0, 0, 0], [0, 0, 0, 0, 0, 0, 0, 0], [0, 0, 0, 0, 0, 2, 0, 0], [0, 3, 0, 0, 0, 0, 4, 0]]
def tyUse (k j : Nat) : Int := (tyTab.getD k []).getD j 0
theorem tyUse_bd : ∀ k, k < 7 → (0 ≤ tyUse k 0 ∧ tyUse k 0 ≤ 3) ∧ (tyUse k 1 = 0 ∨ tyUse k 1 = 1 ∨ tyUse k 1 = 3) ∧ (0 ≤ tyUse k 5 ∧ tyUse k 5 ≤ 255) ∧ (0 ≤ tyUse k 6 ∧ tyUse k 6 ≤ 255) := by decide
def tyVals : List Value := tyTab.flatten.map fun n => Value.int .u8 n
theorem tyVals_at : ∀ k, k < 7 → ∀ j, j < 8 → tyVals[k * 8 + j]? = some (.int .u8 (tyUse k j)) := by
  have h : ∀ k, k < 7 → ∀ j, j < 8 → tyTab.flatten[k * 8 + j]? = some (tyUse k j) := by decide
  intro k hk j hj
  unfold tyVals
  rw [List.getElem?_map, h k hk j hj]
  rfl
/-- the table lies in its variable -/
def UsesT (w : World) : Prop := ∃ t fr, w.heap[2]? = some (.cells tyVals.toArray t fr)
theorem UsesT.at {w : World} (h : UsesT w) (k : Nat) (hk : k < 7) (j : Nat) (hj : j < 8) : w.cell? ⟨2, k * 8 + j, none⟩ = some (.int .u8 (tyUse k j)) := by
  obtain ⟨t, fr, h⟩ := h
  unfold World.cell?
  simp only [h]
  rw [← tyVals_at k hk j hj]
  simp
theorem UsesT.grown {w w' : World} (h : UsesT w) (hg : w.grownBy w' none) : UsesT w' := by
  obtain ⟨t, fr, h⟩ := h
  exact ⟨t, fr, by rw [hg.block _ (Array.getElem?_eq_some_iff.1 h).1 (by simp), h]⟩
theorem UsesT.below {w w' : World} (h : UsesT w) (hb : Below w.heap.size w w') : UsesT w' := by
  obtain ⟨t, fr, h⟩ := h
  exact ⟨t, fr, by rw [hb.block _ (Array.getElem?_eq_some_iff.1 h).1, h]⟩
end Go.Proofs.YtbmicnajedeenaaGreatDoor
/- GreatType: whether a type is too large for the statements. -/
namespace Go.Proofs.YtbmicnajedeenaaGreatDoor
open Go.RowKit

/-- what typeLeft answers for a type -/
def TlSays (e : Ty) : Prop := ∀ (cs : List Value) (nodes d : Int) (w : World), RepT (fun _ => True) w e cs → 0 ≤ nodes → nodes ≤ 4000 → 0 ≤ d → d ≤ 250 →
  Calls Tryz.prog 31 #[.agg cs.toArray, .int .i64 nodes, .int .i64 d] w fun e' w' => e' = .returned (.int .i64 (tleftP e nodes d)) ∧ Below w.heap.size w w'
set_option maxRecDepth 100000 in
set_option maxHeartbeats 4000000 in
theorem tleft_any : ∀ e, TlSays e := by
  refine Ty.ind fun e ih cs nodes d w h1 n1 n2 d1 d2 => ?_
  cases e with
  | mk k n s l ls tl =>
  have h1' := h1.tight
  obtain ⟨Al, cl, Ar, cr, rfl, hf, hls, hl⟩ := h1'
  have hPl : TParts w.heap.size w Al l := tparts_of hl
  obtain ⟨S, hS⟩ : ∃ S, S = strB s := ⟨_, rfl⟩
  have HS : Hid (S.size = s.length) := Lib.hid (by rw [hS, strB_size])
  obtain ⟨nl, hnl⟩ : ∃ q, q = l.length := ⟨_, rfl⟩
  obtain ⟨nr, hnr⟩ : ∃ q, q = ls.length := ⟨_, rfl⟩
  have hl2 : (nl : Int) ≤ 9223372036854775807 := by have := hf.hcl; unfold maxLen at this; omega
  have hr2 : (nr : Int) ≤ 9223372036854775807 := by have := hf.hcr; unfold maxLen at this; omega
  obtain ⟨R, hR⟩ : ∃ R, R = tleftP (.mk k n s l ls tl) nodes d := ⟨_, rfl⟩
  show Calls Tryz.prog 31 #[.agg #[.int .i64 k, .int .i64 n, .string (strB s), .slice Al l.length cl, .slice Ar ls.length cr, .int .i64 tl], .int .i64 nodes, .int .i64 d] w fun e' w' => e' = .returned (.int .i64 (tleftP (.mk k n s l ls tl) nodes d)) ∧ Below w.heap.size w w'
  rw [← hR, ← hS, ← hnl, ← hnr]
  rw [tleftP] at hR
  have HNl := Lib.hid hnl
  have HNr := Lib.hid hnr
  have HPl := Lib.hid hPl
  have HLs := Lib.hid hls
  have HIH := Lib.hid ih
  obtain ⟨W1, hW1⟩ : ∃ W1, w.alloc (.cells #[.int .i64 k, .int .i64 n, .string S, .slice Al nl cl, .slice Ar nr cr, .int .i64 tl] 63) = W1 := ⟨_, rfl⟩
  have HB1 : Hid (Below w.heap.size w W1) := Lib.hid (by rw [← hW1]; exact (Below.refl _ _).alloc (Nat.le_refl _) _)
  have HE1 : Hid (TyBx W1 w.heap.size (.int .i64 k) (.int .i64 n) (.string S) (.slice Al nl cl) (.slice Ar nr cr) (.int .i64 tl)) := Lib.hid (by rw [← hW1]; exact TyBx.new w _ _ _ _ _ _)
  have hzw : w.heap.size < W1.heap.size := by rw [← hW1]; simp
  obtain ⟨a0, a1, a2, a3, a4, a5⟩ := HE1.out.c
  clear h1 hf hls hl hPl ih hS
  by_cases g1 : d < 1 ∨ 100 < S.size ∨ 50 < nl ∨ 50 < nr
  · have HR : Hid (R = -1) := Lib.hid (by
      rw [hR]
      refine if_pos ?_
      rw [HS.out, HNl.out, HNr.out] at g1
      rcases g1 with h | h | h | h
      · exact .inl h
      · exact .inr (.inl h)
      · exact .inr (.inr (.inl h))
      · exact .inr (.inr (.inr (.inl h))))
    clear hR hnl hnr
    by_cases c1 : d < 1
    · have b1 : decide (d < 1) = true := decide_eq_true c1
      clear g1
      go_enter Tryz.func31, Tryz.ntmps31
      go_wp2_with fail
      go_ret
      exact ⟨by rw [HR.out]; rfl, HB1.out⟩
    have b1 : decide (d < 1) = false := decide_eq_false c1
    by_cases c2 : 100 < S.size
    · have b2 : decide ((100 : Int) < (S.size : Int)) = true := decide_eq_true (by omega)
      clear g1 c1
      go_enter Tryz.func31, Tryz.ntmps31
      go_wp2_with fail
      go_ret
      exact ⟨by rw [HR.out]; rfl, HB1.out⟩
    have b2 : decide ((100 : Int) < (S.size : Int)) = false := decide_eq_false (by omega)
    by_cases c3 : 50 < nl
    · have b3 : decide ((50 : Int) < (nl : Int)) = true := decide_eq_true (by omega)
      clear g1 c1 c2
      go_enter Tryz.func31, Tryz.ntmps31
      go_wp2_with fail
      go_ret
      exact ⟨by rw [HR.out]; rfl, HB1.out⟩
    have b3 : decide ((50 : Int) < (nl : Int)) = false := decide_eq_false (by omega)
    have b4 : decide ((50 : Int) < (nr : Int)) = true := decide_eq_true (by omega)
    clear g1 c1 c2 c3
    go_enter Tryz.func31, Tryz.ntmps31
    go_wp2_with fail
    go_ret
    exact ⟨by rw [HR.out]; rfl, HB1.out⟩
  · have b1 : decide (d < 1) = false := decide_eq_false (by omega)
    have b2 : decide ((100 : Int) < (S.size : Int)) = false := decide_eq_false (by omega)
    have b3 : decide ((50 : Int) < (nl : Int)) = false := decide_eq_false (by omega)
    have b4 : decide ((50 : Int) < (nr : Int)) = false := decide_eq_false (by omega)
    have q1 : 1 ≤ d := by omega
    have q3 : nl ≤ 50 := by omega
    have q4 : nr ≤ 50 := by omega
    have HR1 : Hid (longLs ls = true → R = -1) := Lib.hid (fun h => by rw [hR]; exact if_pos (.inr (.inr (.inr (.inr h)))))
    have HR2 : Hid (longLs ls = false → R = tleftL l (nodes - 1) (d - 1)) := Lib.hid (fun h => by
      rw [hR]
      refine if_neg ?_
      rw [HS.out, HNl.out, HNr.out] at g1
      rintro (g | g | g | g | g)
      · exact g1 (.inl g)
      · exact g1 (.inr (.inl g))
      · exact g1 (.inr (.inr (.inl g)))
      · exact g1 (.inr (.inr (.inr g)))
      · rw [h] at g; cases g)
    clear hR hnl hnr g1
    go_enter Tryz.func31, Tryz.ntmps31
    go_wp2_with fail
    clear hW1
    go_loop [7] (fun i => ∃ k : Nat, k ≤ nr ∧ i = .int .i64 (k : Int) ∧ Hid (∀ (j : Nat) (x : Txt × Int), j < k → ls[j]? = some x → x.1.length ≤ 100)) (fun i => nr - (intOf i).toNat)
    case atStart => exact ⟨0, by omega, rfl, Lib.hid (fun j x h => by omega)⟩
    case round =>
      obtain ⟨kk, hkk, rfl, HA⟩ := hrel
      by_cases hkl : kk < nr
      · have hkl' : kk < ls.length := by rw [← HNr.out]; exact hkl
        obtain ⟨x, hx⟩ : ∃ x, x = ls[kk] := ⟨_, rfl⟩
        have hxl : ls[kk]? = some x := by rw [hx]; exact List.getElem?_eq_getElem hkl'
        obtain ⟨b, off, rfl, _, hlt, hc⟩ := HLs.out (List.ne_nil_of_length_pos (by omega))
        have d1 := (Below.cell (p := ⟨b, _, none⟩) HB1.out hlt).trans (hc kk x hxl).1
        have i0 : (0 : Int) ≤ (kk : Int) := by omega
        have i1 : (kk : Int) < (nr : Int) := by omega
        obtain ⟨X, hX⟩ : ∃ X, X = strB x.1 := ⟨_, rfl⟩
        have HX : Hid (X.size = x.1.length) := Lib.hid (by rw [hX, strB_size])
        have HXl := Lib.hid hxl
        rw [← hX] at d1
        clear hc hx hxl hX hlt
        by_cases g1 : 100 < X.size
        · have g2 : (100 : Int) < (X.size : Int) := by omega
          have HRf := Lib.hid (HR1.out (by
            unfold longLs
            rw [List.any_eq_true]
            exact ⟨x, List.mem_of_getElem? HXl.out, decide_eq_true (by rw [← HX.out]; exact g1)⟩))
          go_wp2_with fail
          go_ret
          exact ⟨by rw [HRf.out]; rfl, HB1.out⟩
        · have g2 : (X.size : Int) ≤ 100 := by omega
          have HA2 : Hid (∀ (j : Nat) (x : Txt × Int), j < kk + 1 → ls[j]? = some x → x.1.length ≤ 100) := Lib.hid (fun j y hj hy => by
            by_cases e : j = kk
            · subst e
              have := Option.some.inj (hy.symm.trans HXl.out)
              rw [this, ← HX.out]; omega
            · exact HA.out j y (by omega) hy)
          clear HA
          go_wp2_with fail
          go_round
          case rel => exact ⟨kk + 1, by omega, by go_num, HA2⟩
          case measure => simp [intOf]; omega
      · obtain rfl : kk = nr := by omega
        have HR3 := Lib.hid (HR2.out (by
          unfold longLs
          rw [Bool.eq_false_iff, ne_eq, List.any_eq_true]
          rintro ⟨x, hx, h⟩
          obtain ⟨j, hj, rfl⟩ := List.getElem_of_mem hx
          have h1 := HA.out j _ (by rw [HNr.out]; exact hj) (List.getElem?_eq_getElem hj)
          have h2 := of_decide_eq_true h
          omega))
        clear HA HR1 HR2
        go_wp2_with fail
        go_loopw [1, 8] (fun v i wr => ∃ (j : Nat) (N : Int), j ≤ nl ∧ -1 ≤ N ∧ N ≤ 3999 ∧ i = .int .i64 (j : Int) ∧ v = .int .i64 N ∧ Hid (N = tleftL (l.take j) (nodes - 1) (d - 1)) ∧ Hid (Below W1.heap.size W1 wr)) (fun v i _ => nl - (intOf i).toNat)
        case atStart => exact ⟨0, nodes - 1, by omega, by omega, by omega, rfl, rfl, Lib.hid (by rw [List.take_zero, tleftL]), Lib.hid (Below.refl _ _)⟩
        case round =>
          clear a0 a1 a2 a3 a4 a5
          obtain ⟨j, N, hj, hN1, hN2, rfl, rfl, HNJ, HBw⟩ := hrel
          have HB := Lib.hid (HB1.out.trans (HBw.out.mono HB1.out.size))
          have HEr : Hid (TyBx wr w.heap.size (.int .i64 k) (.int .i64 n) (.string S) (.slice Al nl cl) (.slice Ar kk cr) (.int .i64 tl)) := Lib.hid (HE1.out.kept (grown_below HBw.out none) (by simp))
          obtain ⟨a0, a1, a2, a3, a4, a5⟩ := HEr.out.c
          have i0 : (0 : Int) ≤ (j : Int) := by omega
          by_cases hjl : j < nl
          · have i1 : (j : Int) < (nl : Int) := by omega
            have g1 : decide (j < nl) = true := decide_eq_true hjl
            by_cases h0 : 0 ≤ N
            · have g2 : decide (0 ≤ N) = true := decide_eq_true h0
              have hjl' : j < l.length := by rw [← HNl.out]; exact hjl
              obtain ⟨x, hx⟩ : ∃ x, x = l[j] := ⟨_, rfl⟩
              have hxl : l[j]? = some x := by rw [hx]; exact List.getElem?_eq_getElem hjl'
              obtain ⟨b, off, rfl⟩ := HPl.out.addr (by omega)
              obtain ⟨hbx, k1, m1, s1, X0, p0, c0, X1, p1, c1, t1, hcx⟩ := HPl.out.at hxl
              obtain ⟨f0, f1, f2, f3, f4, f5⟩ := hcx.up hbx HB.out
              have hle := tleftP_le x N (d - 1) h0
              obtain ⟨N', hN'⟩ : ∃ N', N' = tleftP x N (d - 1) := ⟨_, rfl⟩
              have HNN : Hid (N' = tleftL (l.take (j + 1)) (nodes - 1) (d - 1)) := Lib.hid (by rw [hN']; exact tleftL_step HNJ.out h0 hxl)
              have HI : Hid (Calls Tryz.prog 31 #[.agg #[.int .i64 k1, .int .i64 m1, .string s1, .slice X0 p0 c0, .slice X1 p1 c1, .int .i64 t1], .int .i64 N, .int .i64 (d - 1)] wr fun e' w' => e' = .returned (.int .i64 N') ∧ Below wr.heap.size wr w') := Lib.hid (by
                rw [hN']
                exact HIH.out x (List.mem_of_getElem? hxl) _ N (d - 1) wr ((hcx.rep.weaken (Q := fun _ => True) (fun _ _ => trivial)).keep (Same.of_below HB.out)) h0 (by omega) (by omega) (by omega))
              rw [← hN'] at hle
              obtain ⟨hle1, hle2⟩ := hle
              clear hx hxl hcx hN' hbx
              go_wp2_with fail
              refine HI.out.mono ?_
              rintro e w' ⟨rfl, hb⟩
              have HB2 := Lib.hid (HBw.out.trans (hb.mono HBw.out.size))
              clear hb
              go_wp2_with fail
              go_roundw
              case rel => exact ⟨j + 1, N', by omega, by omega, by omega, by go_num, rfl, HNN, HB2⟩
              case measure => simp [intOf]; omega
            · have g2 : decide (0 ≤ N) = false := decide_eq_false h0
              have HRn : Hid (R = N) := Lib.hid (by rw [HR3.out]; exact (tleftL_end HNJ.out (.inl (by omega))).symm)
              go_wp2_with fail
              go_ret
              exact ⟨by rw [HRn.out]; rfl, HB.out⟩
          · have g1 : decide (j < nl) = false := decide_eq_false hjl
            have HRn : Hid (R = N) := Lib.hid (by rw [HR3.out]; exact (tleftL_end HNJ.out (.inr (by rw [← HNl.out]; omega))).symm)
            go_wp2_with fail
            go_ret
            exact ⟨by rw [HRn.out]; rfl, HB.out⟩
set_option maxRecDepth 100000 in
set_option maxHeartbeats 1000000 in
theorem GreatType_any (e : Ty) (v0 v1 v2 v3 v4 v5 : Value) (w : World) (h : RepT (fun _ => True) w e [v0, v1, v2, v3, v4, v5]) :
    Calls Tryz.prog 15 #[.agg #[v0, v1, v2, v3, v4, v5]] w fun r w' => r = .returned (.bool (greatT e)) ∧ Below w.heap.size w w' := by
  have HT := Lib.hid (fun w' (hb : Below w.heap.size w w') => tleft_any e _ 4000 250 w' (h.keep (Same.of_below hb)) (by omega) (by omega) (by omega) (by omega))
  obtain ⟨k, n, s, A0, n0, c0, A1, n1, c1, tl, hsh⟩ := h.shape
  simp only [List.cons.injEq, and_true] at hsh
  obtain ⟨rfl, rfl, rfl, rfl, rfl, rfl⟩ := hsh
  obtain ⟨M, hM⟩ : ∃ M, M = tleftP e 4000 250 := ⟨_, rfl⟩
  obtain ⟨R, hR⟩ : ∃ R, R = greatT e := ⟨_, rfl⟩
  have HR : Hid (R = decide (M < 0)) := Lib.hid (by rw [hR, hM]; rfl)
  rw [← hM] at HT
  rw [← hR]
  have HB0 : Hid (Below w.heap.size w (w.alloc (.cells #[.int .i64 k, .int .i64 n, .string s, .slice A0 n0 c0, .slice A1 n1 c1, .int .i64 tl] 63))) := Lib.hid ((Below.refl _ _).alloc (Nat.le_refl _) _)
  clear hM hR h
  go_enter Tryz.func15, Tryz.ntmps15
  go_wp2_with fail
  refine (HT.out _ HB0.out).mono ?_
  rintro r w2 ⟨rfl, hb⟩
  have HB2 := Lib.hid (HB0.out.trans (hb.mono HB0.out.size))
  clear hb
  go_wp2_with fail
  go_ret
  exact ⟨by rw [HR.out]; rfl, HB2.out⟩
end Go.Proofs.YtbmicnajedeenaaGreatDoor
/- The reference's typeLeft: whether a type is too large. -/
namespace Go.Proofs.YtbmicnajedeenaaGreatDoor
open Go.RowKit

end Go.Proofs.YtbmicnajedeenaaGreatDoor
/- The reference's typeChecked: a type's first error. -/
namespace Go.Proofs.YtbmicnajedeenaaGreatDoor
open Go.RowKit

end Go.Proofs.YtbmicnajedeenaaGreatDoor
/- The reference's CheckType. -/
namespace Go.Proofs.YtbmicnajedeenaaGreatDoor
open Go.RowKit

end Go.Proofs.YtbmicnajedeenaaGreatDoor
/- A type's nodes in order; what CheckType answers, said by nodes. -/
namespace Go.Proofs.YtbmicnajedeenaaGreatDoor
open Go.RowKit

mutual
def nodesT : Int → Ty → List (Int × Ty)
  | d, .mk k n s l ls tl => (d, .mk k n s l ls tl) :: nodesTL (d + 1) l
def nodesTL : Int → List Ty → List (Int × Ty)
  | _, [] => []
  | d, x :: r => nodesT d x ++ nodesTL d r
end
theorem nodesTL_append (d : Int) : ∀ a b, nodesTL d (a ++ b) = nodesTL d a ++ nodesTL d b
  | [], b => by simp [nodesTL]
  | x :: r, b => by simp [nodesTL, nodesTL_append d r b]
theorem nodesT_parts (d : Int) : ∀ e, nodesT d e = (d, e) :: nodesTL (d + 1) e.l
  | .mk k n s l ls tl => by rw [nodesT]; rfl
theorem nodesTL_snoc (d : Int) (a : List Ty) (x : Ty) : nodesTL d (a ++ [x]) = nodesTL d a ++ nodesT d x := by rw [nodesTL_append]; simp [nodesTL]
theorem nodesTL_prefix (d : Int) {a b : List Ty} (h : a <+: b) : nodesTL d a <+: nodesTL d b := by
  obtain ⟨c, rfl⟩ := h; rw [nodesTL_append]; exact List.prefix_append _ _
theorem hT_part {e x : Ty} (h : x ∈ e.l) : hT x + 1 ≤ hT e := by
  have := hTL_mem h
  rw [hT_eq e]; omega
/-- the size and the depth of what comes, no further than to where one is above its limit -/
def measT : Int → Int → List (Int × Ty) → Int × Int
  | s, m, [] => (s, m)
  | s, m, (d, _) :: r => if 3000 < s + 1 ∨ 200 < max m d then (s + 1, max m d) else measT (s + 1) (max m d) r
/-- the first number that is not 0 -/
def firstT (chk : Ty → Int) : List (Int × Ty) → Int
  | [] => 0
  | (_, x) :: r => if chk x = 0 then firstT chk r else chk x
/-- some node has too many labels -/
def manyT : List (Int × Ty) → Bool
  | [] => false
  | (_, x) :: r => decide (24 < x.ls.length) || manyT r
/-- the error of a node -/
def tyN : Ty → Int
  | .mk k n s l ls tl => tyNode k n s l.length ls tl
/-- what the program's CheckType answers for a type -/
def pkT (e : Ty) : Int :=
  if 3000 < (measT 0 0 (nodesT 1 e)).1 ∨ 200 < (measT 0 0 (nodesT 1 e)).2 then 3 else if manyT (nodesT 1 e) = true then 3 else firstT tyN (nodesT 1 e)
theorem manyT_append : ∀ a b, manyT (a ++ b) = (manyT a || manyT b)
  | [], b => by rw [List.nil_append, manyT, Bool.false_or]
  | (d, x) :: r, b => by rw [List.cons_append, manyT, manyT, manyT_append r b, Bool.or_assoc]
end Go.Proofs.YtbmicnajedeenaaGreatDoor
/- The parts of a type's node, one after another: the iterator. -/
namespace Go.Proofs.YtbmicnajedeenaaGreatDoor
open Go.RowKit Go.Shelf

attribute [local go_sem] Oper.semAt_some

theorem LabsAt.keepC {P : Nat → Prop} {w w' : World} {A : Option Addr} {L : List (List UInt8 × Int)} (h : LabsAt P w A L) (hs : KC P w w') : LabsAt P w' A L := fun h0 => by
  obtain ⟨b, off, e, hp, hlt, hc⟩ := h h0
  exact ⟨b, off, e, hp, Nat.lt_of_lt_of_le hlt hs.1, fun j l hj => ⟨(hs.2 _ _ _ hp (hc j l hj).1).1, (hs.2 _ _ _ hp (hc j l hj).2).1⟩⟩
mutual
theorem RepT.keepC {P : Nat → Prop} {w w' : World} (hs : KC P w w') : ∀ {e : Ty} {cs : List Value}, RepT P w e cs → RepT P w' e cs
  | .mk k n s l ls tl, cs, h => by
    obtain ⟨Al, cl, Ar, cr, e, hf, hn, hl⟩ := h
    refine ⟨Al, cl, Ar, cr, e, hf, hn.keepC hs, fun h0 => ?_⟩
    obtain ⟨b, off, e, hp, hlt, hr⟩ := hl h0
    exact ⟨b, off, e, hp, Nat.lt_of_lt_of_le hlt hs.1, RepTL.keepC hs hp hr⟩
theorem RepTL.keepC {P : Nat → Prop} {w w' : World} (hs : KC P w w') {b : Nat} (hp : P b) : ∀ {l : List Ty} {off : Nat}, RepTL P w b off l → RepTL P w' b off l
  | [], off, _ => trivial
  | e :: r, off, h => by
    obtain ⟨⟨cs, h7, hc, he⟩, hr⟩ := h
    exact ⟨⟨cs, h7, hc.keepC hp hs, RepT.keepC hs he⟩, RepTL.keepC hs hp hr⟩
end
theorem RepT.shape2 {P : Nat → Prop} {w : World} {e : Ty} {cs : List Value} (h : RepT P w e cs) : ∃ k n s t A0 n0 c0 A1 n1 c1, cs = [.int .i64 k, .int .i64 n, .string s, .slice A0 n0 c0, .slice A1 n1 c1, .int .i64 t] := by
  obtain ⟨k, n, s, A0, n0, c0, A1, n1, c1, tl, e⟩ := h.shape
  exact ⟨k, n, s, tl, A0, n0, c0, A1, n1, c1, e⟩
section
variable {w : World} {g : Nat} {v0 v1 v2 v3 v4 v5 : Value}
theorem TyBx.c0 (h : TyBx w g v0 v1 v2 v3 v4 v5) : w.cell? ⟨g, 0, none⟩ = some v0 := h.c.1
theorem TyBx.c1 (h : TyBx w g v0 v1 v2 v3 v4 v5) : w.cell? ⟨g, 1, none⟩ = some v1 := h.c.2.1
theorem TyBx.c2 (h : TyBx w g v0 v1 v2 v3 v4 v5) : w.cell? ⟨g, 2, none⟩ = some v2 := h.c.2.2.1
theorem TyBx.c3 (h : TyBx w g v0 v1 v2 v3 v4 v5) : w.cell? ⟨g, 3, none⟩ = some v3 := h.c.2.2.2.1
theorem TyBx.c4 (h : TyBx w g v0 v1 v2 v3 v4 v5) : w.cell? ⟨g, 4, none⟩ = some v4 := h.c.2.2.2.2.1
theorem TyBx.c5 (h : TyBx w g v0 v1 v2 v3 v4 v5) : w.cell? ⟨g, 5, none⟩ = some v5 := h.c.2.2.2.2.2
end
/-- the parts of a type behind a slice -/
def LstAt (P : Nat → Prop) (w : World) (A : Option Addr) (l : List Ty) : Prop := l ≠ [] → ∃ b off, A = some ⟨b, off, none⟩ ∧ P b ∧ b < w.heap.size ∧ RepTL P w b off l
/-- the slice of a type's parts -/
theorem RepT.lst {P : Nat → Prop} {w : World} {e : Ty} {v0 v1 v2 v4 v5 : Value} {A : Option Addr} {n c : Nat} (h : RepT P w e [v0, v1, v2, .slice A n c, v4, v5]) : n = e.l.length ∧ n ≤ c ∧ c ≤ maxLen ∧ LstAt P w A e.l := by
  cases e
  obtain ⟨Al, cl, Ar, cr, e, hf, _, hl⟩ := h
  simp only [tyCells, List.cons.injEq, Value.slice.injEq, and_true] at e
  obtain ⟨_, _, _, ⟨rfl, rfl, rfl⟩, _, _⟩ := e
  exact ⟨rfl, hf.hcl.1, hf.hcl.2, hl⟩

/-- a part as it is handed on: the type, and its cells -/
structure PtT (M : Ty → Prop) (P : Nat → Prop) (w0 : World) where
  x : Ty
  cs : List Value
  rep : RepT P w0 x cs
  mem : M x

set_option maxRecDepth 100000 in
set_option maxHeartbeats 2000000 in
theorem partsT_in (F : Fence) (n : Nat) (hF : F.fn 173) (hro : F.round = none) (hn : 1 ≤ n) (l Bn : Nat) (P : Nat → Prop) (el : List Ty) (w0 : World) (J Jx : List (PtT (· ∈ el) P w0) → World → Prop)
    (hJ : ∀ pre A o, J pre A → J pre (A.alloc o))
    (hY : ∀ pre (x : PtT (· ∈ el) P w0) W, J pre W → YieldAt F (n - 1) Tryz.prog l #[.agg x.cs.toArray] W fun e W' =>
      (e = .returned (.bool true) ∧ J (pre ++ [x]) W' ∧ KC P W W') ∨ (e = .returned (.bool false) ∧ Jx (pre ++ [x]) W'))
    (W : World) (Al : Option Addr) (nl cl : Nat) (hB : W.cell? ⟨Bn, 0, none⟩ = some (.slice Al nl cl)) (hbn : P Bn) (hw : KC P w0 W) (hnl : nl = el.length) (hlm : nl ≤ maxLen) (hl : LstAt P w0 Al el) (h0 : J [] W) :
    CallsIn F n Tryz.prog 173 #[.func (.yield l) #[] #[], .pointer (some ⟨Bn, 0, none⟩)] W fun r W' => (∃ v, r = .returned v) ∧
      ((∃ ys : List (PtT (· ∈ el) P w0), ys.map PtT.x = el ∧ J ys W' ∧ KC P W W') ∨ (∃ pre : List (PtT (· ∈ el) P w0), pre.map PtT.x <+: el ∧ Jx pre W')) := by
  have HC5 : Hid (∀ wr, KC P W wr → wr.cell? ⟨Bn, 0, none⟩ = some (.slice Al nl cl)) := fun wr h => (h.2 _ _ _ hbn hB).1
  have c5 := HC5.out W (KC.refl _ _)
  have HL := Lib.hid hl
  have HY := Lib.hid hY
  have HW := Lib.hid hw
  have HNL := Lib.hid hnl
  unfold maxLen at hlm
  clear hl hY hw hB hnl
  refine callsIn_of_wp Tryz.func173 rfl hF ?_ hro
  simp only [Tryz.ntmps173, List.size_toArray, List.length_cons, List.length_nil, Nat.reduceAdd, Nat.reduceSub, Array.replicate_succ, Array.replicate_zero, List.push_toArray, List.append_toArray, List.nil_append, List.cons_append]
  gi_wp2
  gi_loopw [7] (fun i wr => ∃ (k : Nat) (pre : List (PtT (· ∈ el) P w0)), k ≤ nl ∧ i = .int .i64 (k : Int) ∧ Hid (pre.map PtT.x = el.take k) ∧ Hid (J pre wr) ∧ Hid (KC P W wr)) (fun i _ => nl - (intOf i).toNat)
  case atStart => exact ⟨0, [], Nat.zero_le _, rfl, Lib.hid (by simp), Lib.hid h0, Lib.hid (KC.refl _ _)⟩
  case round =>
    clear c5
    obtain ⟨k, pre, hk, rfl, hpre, hJs, hkc⟩ := hrel
    by_cases hkl : k < nl
    · have hkl' : k < el.length := by rw [← HNL.out]; exact hkl
      obtain ⟨b, off, rfl, hp, hlt, hr⟩ := HL.out (List.ne_nil_of_length_pos (by omega))
      obtain ⟨cs, h7, hc, he⟩ := RepTL.at hr (List.getElem?_eq_getElem hkl')
      obtain ⟨xk, xn, xs, xt, A0, n0, m0, A1, n1, m1, rfl⟩ := he.shape2
      have HX := Lib.hid he
      have hcw := (hc.keepC hp HW.out).keepC hp hkc.out
      have c5 := HC5.out wr hkc.out
      have d0 := hcw 0 _ rfl
      have d1 := hcw 1 _ rfl
      have d2 := hcw 2 _ rfl
      have d3 := hcw 3 _ rfl
      have d4 := hcw 4 _ rfl
      have d5 := hcw 5 _ rfl
      rw [Nat.add_zero] at d0
      have i0 : (0 : Int) ≤ (k : Int) := by omega
      have i1 : (k : Int) < (nl : Int) := by omega
      have HTk : Hid (el.take (k + 1) = el.take k ++ [el[k]]) := Lib.hid (by rw [List.take_add_one, List.getElem?_eq_getElem hkl']; rfl)
      obtain ⟨fn, tmps, assign, body, hy, hR⟩ := HY.out pre ⟨el[k], _, he, List.getElem_mem hkl'⟩ (wr.alloc (.cells #[.int .i64 xk, .int .i64 xn, .string xs, .slice A0 n0 m0, .slice A1 n1 m1, .int .i64 xt] 63)) (hJ _ _ _ hJs.out)
      have HR := Lib.hid hR
      dsimp only at hy
      clear hcw hc hr hp hlt hR
      gi_wp2
      have HK1 : Hid (KC P W (wr.alloc (.cells #[.int .i64 xk, .int .i64 xn, .string xs, .slice A0 n0 m0, .slice A1 n1 m1, .int .i64 xt] 63))) := Lib.hid (hkc.out.trans (KC.alloc _ _ _))
      refine HR.out.mono ?_
      rintro e W3 (⟨rfl, hJ3, hk3⟩ | ⟨rfl, hJx3⟩)
      · have HJ3 := Lib.hid hJ3
        have HK3 := Lib.hid (HK1.out.trans hk3)
        clear hJ3 hk3
        gi_wp2
        go_roundw
        case rel => exact ⟨k + 1, pre ++ [⟨el[k], _, HX.out, List.getElem_mem hkl'⟩], by omega, by go_num, Lib.hid (by rw [HTk.out, List.map_append, hpre.out]; rfl), HJ3, HK3⟩
        case measure => simp [intOf]; omega
      · gi_wp2
        refine bodyPost_ret (results_none rfl _ _ _) rfl ?_
        exact ⟨⟨_, rfl⟩, .inr ⟨_, by
          rw [List.map_append, hpre.out]
          show el.take k ++ [el[k]] <+: el
          rw [← HTk.out]
          exact List.take_prefix _ _, hJx3⟩⟩
    · obtain rfl : k = nl := by omega
      have hall : pre.map PtT.x = el := by have := hpre.out; rwa [HNL.out, List.take_length] at this
      have HALL := Lib.hid hall
      have c5 := HC5.out wr hkc.out
      clear hall
      gi_wp2
      go_end0
      exact ⟨⟨_, rfl⟩, .inl ⟨pre, HALL.out, hJs.out, hkc.out⟩⟩

set_option maxRecDepth 100000 in
set_option maxHeartbeats 400000 in
theorem typeParts_any (k n : Int) (s : ByteArray) (t : Int) (A0 : Option Addr) (n0 c0 : Nat) (A1 : Option Addr) (n1 c1 : Nat) (w : World) :
    Calls Tryz.prog 133 #[.agg #[.int .i64 k, .int .i64 n, .string s, .slice A0 n0 c0, .slice A1 n1 c1, .int .i64 t]] w fun e w' =>
      e = .returned (.func (.func 173) #[] #[.pointer (some ⟨w.heap.size + 1, 0, none⟩)]) ∧ w' = (w.alloc (.cells #[.int .i64 k, .int .i64 n, .string s, .slice A0 n0 c0, .slice A1 n1 c1, .int .i64 t] 63)).alloc (.cells #[.slice A0 n0 c0] 51) := by
  have hmf : ∀ (fn : Fn) (first cap : Array Value) (w : World), (Instr.makeFunc fn first cap).run Tryz.prog w = .ok (.func fn first cap) w := fun _ _ _ _ => rfl
  have HV : Hid (∀ w, Calls Tryz.prog 156 #[.slice A0 n0 c0] w fun e w' => e = .returned (.func (.func 173) #[] #[.pointer (some ⟨w.heap.size, 0, none⟩)]) ∧ w' = w.alloc (.cells #[.slice A0 n0 c0] 51)) := Lib.hid (fun w => by
    go_enter Tryz.func156, Tryz.ntmps156
    go_wp2_with fail
    go_ret
    exact ⟨rfl, rfl⟩)
  go_enter Tryz.func133, Tryz.ntmps133
  go_wp2_with fail
  refine (HV.out _).mono ?_
  rintro e w' ⟨rfl, rfl⟩
  go_wp2_with fail
  go_ret
  exact ⟨rfl, rfl⟩
end Go.Proofs.YtbmicnajedeenaaGreatDoor
/- Programs: their declarations and definitions, and how they lie in memory. -/
namespace Go.Proofs.YtbmicnajedeenaaGreatDoor
open Go.ChangeShapes Go.WideShapes Go.Deep Go.RowKit

/-- a constructor, a data type, an operation, an effect, a definition -/
abbrev Cn := Txt × List Ty
abbrev Dt := Txt × List Txt × List Cn
abbrev Opn := Txt × Ty × Ty × Bool
abbrev Ef := Txt × List Opn
abbrev Df := Txt × Ex
structure Pg where
  ds : List Dt
  fs : List Ef
  dfs : List Df
  m : Ex
/-- rows of k cells lie in memory -/
def RowAt {α : Type} (P : Nat → Prop) (w : World) (A : Option Addr) (k : Nat) (R : α → List Value → Prop) (L : List α) : Prop :=
  L ≠ [] → ∃ b off, A = some ⟨b, off, none⟩ ∧ P b ∧ b < w.heap.size ∧ ∀ (j : Nat) (x : α), L[j]? = some x → ∃ cs, cs.length = k ∧ CellsAt w b (off + j * k) cs ∧ R x cs
theorem RowAt.keepC {α : Type} {P : Nat → Prop} {w w' : World} {A : Option Addr} {k : Nat} {R R' : α → List Value → Prop} {L : List α} (h : RowAt P w A k R L) (hs : KC P w w') (hR : ∀ x cs, R x cs → R' x cs) : RowAt P w' A k R' L := fun h0 => by
  obtain ⟨b, off, e, hp, hlt, hc⟩ := h h0
  refine ⟨b, off, e, hp, Nat.lt_of_lt_of_le hlt hs.1, fun j x hj => ?_⟩
  obtain ⟨cs, h1, h2, h3⟩ := hc j x hj
  exact ⟨cs, h1, h2.keepC hp hs, hR _ _ h3⟩
theorem RowAt.weaken {α : Type} {P Q : Nat → Prop} {w : World} {A : Option Addr} {k : Nat} {R R' : α → List Value → Prop} {L : List α} (h : RowAt P w A k R L) (hq : ∀ b, P b → Q b) (hR : ∀ x cs, R x cs → R' x cs) : RowAt Q w A k R' L := fun h0 => by
  obtain ⟨b, off, e, hp, hlt, hc⟩ := h h0
  refine ⟨b, off, e, hq _ hp, hlt, fun j x hj => ?_⟩
  obtain ⟨cs, h1, h2, h3⟩ := hc j x hj
  exact ⟨cs, h1, h2, hR _ _ h3⟩
theorem RowAt.tight {α : Type} {P : Nat → Prop} {w : World} {A : Option Addr} {k : Nat} {R R' : α → List Value → Prop} {L : List α} (h : RowAt P w A k R L) (hR : ∀ x cs, R x cs → R' x cs) : RowAt (fun b => b < w.heap.size) w A k R' L := fun h0 => by
  obtain ⟨b, off, e, _, hlt, hc⟩ := h h0
  refine ⟨b, off, e, hlt, hlt, fun j x hj => ?_⟩
  obtain ⟨cs, h1, h2, h3⟩ := hc j x hj
  exact ⟨cs, h1, h2, hR _ _ h3⟩
def capOk (n c : Nat) : Prop := n ≤ c ∧ c ≤ maxLen
def CnC (P : Nat → Prop) (w : World) (x : Cn) (cs : List Value) : Prop :=
  ∃ A c, cs = [.string (strB x.1), .slice A x.2.length c] ∧ okS x.1 ∧ capOk x.2.length c ∧ RowAt P w A 6 (RepT P w) x.2
def DtC (P : Nat → Prop) (w : World) (x : Dt) (cs : List Value) : Prop :=
  ∃ A c A' c', cs = [.string (strB x.1), .slice A x.2.1.length c, .slice A' x.2.2.length c'] ∧ okS x.1 ∧ capOk x.2.1.length c ∧ (∀ y ∈ x.2.1, okS y) ∧ NamesAt P w A x.2.1 ∧ capOk x.2.2.length c' ∧ RowAt P w A' 2 (CnC P w) x.2.2
def OpC (P : Nat → Prop) (w : World) (x : Opn) (cs : List Value) : Prop :=
  ∃ c1 c2, cs = .string (strB x.1) :: (c1 ++ (c2 ++ [.bool x.2.2.2])) ∧ okS x.1 ∧ RepT P w x.2.1 c1 ∧ RepT P w x.2.2.1 c2
def EfC (P : Nat → Prop) (w : World) (x : Ef) (cs : List Value) : Prop :=
  ∃ A c, cs = [.string (strB x.1), .slice A x.2.length c] ∧ okS x.1 ∧ capOk x.2.length c ∧ RowAt P w A 14 (OpC P w) x.2
def DfC (P : Nat → Prop) (w : World) (x : Df) (cs : List Value) : Prop :=
  ∃ c7, cs = .string (strB x.1) :: c7 ∧ okS x.1 ∧ RepE P w x.2 c7
/-- ten cells are a program -/
def RepG (P : Nat → Prop) (w : World) (p : Pg) (cs : List Value) : Prop :=
  ∃ A c A' c' B d c7, cs = .slice A p.ds.length c :: .slice A' p.fs.length c' :: .slice B p.dfs.length d :: c7 ∧ (capOk p.ds.length c ∧ capOk p.fs.length c' ∧ capOk p.dfs.length d) ∧
    RowAt P w A 3 (DtC P w) p.ds ∧ RowAt P w A' 2 (EfC P w) p.fs ∧ RowAt P w B 8 (DfC P w) p.dfs ∧ RepE P w p.m c7
theorem CnC.keepC {P : Nat → Prop} {w w' : World} (hs : KC P w w') {x : Cn} {cs : List Value} (h : CnC P w x cs) : CnC P w' x cs := by
  obtain ⟨A, c, e, h1, h2, h3⟩ := h
  exact ⟨A, c, e, h1, h2, h3.keepC hs fun _ _ h => h.keepC hs⟩
theorem DtC.keepC {P : Nat → Prop} {w w' : World} (hs : KC P w w') {x : Dt} {cs : List Value} (h : DtC P w x cs) : DtC P w' x cs := by
  obtain ⟨A, c, A', c', e, h1, h2, h3, h4, h5, h6⟩ := h
  exact ⟨A, c, A', c', e, h1, h2, h3, h4.keepC hs, h5, h6.keepC hs fun _ _ h => h.keepC hs⟩
theorem OpC.keepC {P : Nat → Prop} {w w' : World} (hs : KC P w w') {x : Opn} {cs : List Value} (h : OpC P w x cs) : OpC P w' x cs := by
  obtain ⟨c1, c2, e, h1, h2, h3⟩ := h
  exact ⟨c1, c2, e, h1, h2.keepC hs, h3.keepC hs⟩
theorem EfC.keepC {P : Nat → Prop} {w w' : World} (hs : KC P w w') {x : Ef} {cs : List Value} (h : EfC P w x cs) : EfC P w' x cs := by
  obtain ⟨A, c, e, h1, h2, h3⟩ := h
  exact ⟨A, c, e, h1, h2, h3.keepC hs fun _ _ h => h.keepC hs⟩
theorem DfC.keepC {P : Nat → Prop} {w w' : World} (hs : KC P w w') {x : Df} {cs : List Value} (h : DfC P w x cs) : DfC P w' x cs := by
  obtain ⟨c7, e, h1, h2⟩ := h
  exact ⟨c7, e, h1, h2.keepC hs⟩
theorem RepG.keepC {P : Nat → Prop} {w w' : World} (hs : KC P w w') {p : Pg} {cs : List Value} (h : RepG P w p cs) : RepG P w' p cs := by
  obtain ⟨A, c, A', c', B, d, c7, e, h1, h2, h3, h4, h5⟩ := h
  exact ⟨A, c, A', c', B, d, c7, e, h1, h2.keepC hs fun _ _ h => h.keepC hs, h3.keepC hs fun _ _ h => h.keepC hs, h4.keepC hs fun _ _ h => h.keepC hs, h5.keepC hs⟩
theorem CnC.weaken {P Q : Nat → Prop} {w : World} (hq : ∀ b, P b → Q b) {x : Cn} {cs : List Value} (h : CnC P w x cs) : CnC Q w x cs := by
  obtain ⟨A, c, e, h1, h2, h3⟩ := h
  exact ⟨A, c, e, h1, h2, h3.weaken hq fun _ _ h => h.weaken hq⟩
theorem DtC.weaken {P Q : Nat → Prop} {w : World} (hq : ∀ b, P b → Q b) {x : Dt} {cs : List Value} (h : DtC P w x cs) : DtC Q w x cs := by
  obtain ⟨A, c, A', c', e, h1, h2, h3, h4, h5, h6⟩ := h
  exact ⟨A, c, A', c', e, h1, h2, h3, h4.weaken hq, h5, h6.weaken hq fun _ _ h => h.weaken hq⟩
theorem OpC.weaken {P Q : Nat → Prop} {w : World} (hq : ∀ b, P b → Q b) {x : Opn} {cs : List Value} (h : OpC P w x cs) : OpC Q w x cs := by
  obtain ⟨c1, c2, e, h1, h2, h3⟩ := h
  exact ⟨c1, c2, e, h1, h2.weaken hq, h3.weaken hq⟩
theorem EfC.weaken {P Q : Nat → Prop} {w : World} (hq : ∀ b, P b → Q b) {x : Ef} {cs : List Value} (h : EfC P w x cs) : EfC Q w x cs := by
  obtain ⟨A, c, e, h1, h2, h3⟩ := h
  exact ⟨A, c, e, h1, h2, h3.weaken hq fun _ _ h => h.weaken hq⟩
theorem DfC.weaken {P Q : Nat → Prop} {w : World} (hq : ∀ b, P b → Q b) {x : Df} {cs : List Value} (h : DfC P w x cs) : DfC Q w x cs := by
  obtain ⟨c7, e, h1, h2⟩ := h
  exact ⟨c7, e, h1, h2.weaken hq⟩
theorem RepG.weaken {P Q : Nat → Prop} {w : World} (hq : ∀ b, P b → Q b) {p : Pg} {cs : List Value} (h : RepG P w p cs) : RepG Q w p cs := by
  obtain ⟨A, c, A', c', B, d, c7, e, h1, h2, h3, h4, h5⟩ := h
  exact ⟨A, c, A', c', B, d, c7, e, h1, h2.weaken hq fun _ _ h => h.weaken hq, h3.weaken hq fun _ _ h => h.weaken hq, h4.weaken hq fun _ _ h => h.weaken hq, h5.weaken hq⟩
theorem CnC.tight {P : Nat → Prop} {w : World} {x : Cn} {cs : List Value} (h : CnC P w x cs) : CnC (fun b => b < w.heap.size) w x cs := by
  obtain ⟨A, c, e, h1, h2, h3⟩ := h
  exact ⟨A, c, e, h1, h2, h3.tight fun _ _ h => h.tight⟩
theorem NamesAt.tight2 {P : Nat → Prop} {w : World} {A : Option Addr} {L : List (List UInt8)} (h : NamesAt P w A L) : NamesAt (fun x => x < w.heap.size) w A L := fun h0 => by
  obtain ⟨b, off, e, _, hlt, hc⟩ := h h0
  exact ⟨b, off, e, hlt, hlt, hc⟩
theorem DtC.tight {P : Nat → Prop} {w : World} {x : Dt} {cs : List Value} (h : DtC P w x cs) : DtC (fun b => b < w.heap.size) w x cs := by
  obtain ⟨A, c, A', c', e, h1, h2, h3, h4, h5, h6⟩ := h
  exact ⟨A, c, A', c', e, h1, h2, h3, h4.tight2, h5, h6.tight fun _ _ h => h.tight⟩
theorem OpC.tight {P : Nat → Prop} {w : World} {x : Opn} {cs : List Value} (h : OpC P w x cs) : OpC (fun b => b < w.heap.size) w x cs := by
  obtain ⟨c1, c2, e, h1, h2, h3⟩ := h
  exact ⟨c1, c2, e, h1, h2.tight, h3.tight⟩
theorem EfC.tight {P : Nat → Prop} {w : World} {x : Ef} {cs : List Value} (h : EfC P w x cs) : EfC (fun b => b < w.heap.size) w x cs := by
  obtain ⟨A, c, e, h1, h2, h3⟩ := h
  exact ⟨A, c, e, h1, h2, h3.tight fun _ _ h => h.tight⟩
theorem DfC.tight {P : Nat → Prop} {w : World} {x : Df} {cs : List Value} (h : DfC P w x cs) : DfC (fun b => b < w.heap.size) w x cs := by
  obtain ⟨c7, e, h1, h2⟩ := h
  exact ⟨c7, e, h1, h2.tight.weaken fun _ h => h.2⟩
theorem RepG.tight {P : Nat → Prop} {w : World} {p : Pg} {cs : List Value} (h : RepG P w p cs) : RepG (fun b => b < w.heap.size) w p cs := by
  obtain ⟨A, c, A', c', B, d, c7, e, h1, h2, h3, h4, h5⟩ := h
  exact ⟨A, c, A', c', B, d, c7, e, h1, h2.tight fun _ _ h => h.tight, h3.tight fun _ _ h => h.tight, h4.tight fun _ _ h => h.tight, h5.tight.weaken fun _ h => h.2⟩
theorem KC.of_same {P : Nat → Prop} {w w' : World} (h : Below w.heap.size w w') : KC P w w' := KC.of_grown (grown_below h none) (fun _ _ => by simp)

section
variable {H : Type} {enc : TypeId × Value → H} {W : World} {sp : Nat → Bool} {held : Bool}
theorem row_at {α : Type} {A : Option Addr} {k : Nat} {R : α → List Value → Prop} {L : List α} (h : L ≠ [] → ∃ b off, A = some ⟨b, off, none⟩ ∧ b < W.heap.size ∧ ∀ j l, L[j]? = some l → ∃ cs', cs'.length = k ∧ CellsAt W b (off + j * k) cs' ∧ R l cs') : RowAt (fun _ => True) W A k R L := fun h0 => by
  obtain ⟨b, off, e, hlt, hc⟩ := h h0
  exact ⟨b, off, e, trivial, hlt, hc⟩
set_option maxRecDepth 100000 in
theorem open_cn {f : Nat} {cs : List Value} {x : DataW H × List MemPlace} (h2 : cs.length = 2) (h : DataW.trod enc Tryz.prog W 0 sp held f 53 cs = some x) : ∃ y : Cn, CnC (fun _ => True) W y cs := by
  obtain ⟨xs, m, hm, _, hl, hxl, hf⟩ := DataW.trod_struct Tryz.underlying53 h
  have hxl2 : xs.length = 2 := hxl
  have k9 : Tryz.prog.cellsOf 9 = 1 := by kernel_rfl
  have kT : Tryz.prog.cellsOf 51 = 1 := by kernel_rfl
  match cs, h2, xs, hxl2 with
  | [c0, c1], _, [y0, y1], _ =>
    have f0 : DataW.trod enc Tryz.prog W 0 sp held m 9 [c0] = some y0 := by have := hf 0 _ rfl; simpa [k9] using this
    have f1 : DataW.trod enc Tryz.prog W 0 sp held m 51 [c1] = some y1 := by have := hf 1 _ rfl; simpa [kT] using this
    obtain ⟨s, e0, w0⟩ := str_of f0
    obtain ⟨A, c, L, e1, l1, l2, hr⟩ := rows_of Tryz.underlying51 (k := 6) (by kernel_rfl) (by omega) f1 (fun cs' e => RepT (fun _ => True) W e cs') fun n cs' y _ h6 ht => open_ty n h6 ht
    simp only [List.cons.injEq, and_true] at e0 e1
    subst e0; subst e1
    exact ⟨(s, L), A, c, rfl, w0, ⟨l1, l2⟩, row_at hr⟩
set_option maxRecDepth 100000 in
theorem open_dt {f : Nat} {cs : List Value} {x : DataW H × List MemPlace} (h3 : cs.length = 3) (h : DataW.trod enc Tryz.prog W 0 sp held f 49 cs = some x) : ∃ y : Dt, DtC (fun _ => True) W y cs := by
  obtain ⟨xs, m, hm, _, hl, hxl, hf⟩ := DataW.trod_struct Tryz.underlying49 h
  have hxl3 : xs.length = 3 := hxl
  have k9 : Tryz.prog.cellsOf 9 = 1 := by kernel_rfl
  have kN : Tryz.prog.cellsOf 26 = 1 := by kernel_rfl
  have kT : Tryz.prog.cellsOf 47 = 1 := by kernel_rfl
  match cs, h3, xs, hxl3 with
  | [c0, c1, c2], _, [y0, y1, y2], _ =>
    have f0 : DataW.trod enc Tryz.prog W 0 sp held m 9 [c0] = some y0 := by have := hf 0 _ rfl; simpa [k9] using this
    have f1 : DataW.trod enc Tryz.prog W 0 sp held m 26 [c1] = some y1 := by have := hf 1 _ rfl; simpa [kN] using this
    have f2 : DataW.trod enc Tryz.prog W 0 sp held m 47 [c2] = some y2 := by have := hf 2 _ rfl; simpa [kT] using this
    obtain ⟨s, e0, w0⟩ := str_of f0
    obtain ⟨An, cn, ns, e1, hn1, hn2, hn, hN⟩ := open_names f1
    obtain ⟨A, c, L, e2, l1, l2, hr⟩ := rows_of Tryz.underlying47 (k := 2) (by kernel_rfl) (by omega) f2 (fun cs' e => CnC (fun _ => True) W e cs') fun n cs' y _ h6 ht => open_cn h6 ht
    simp only [List.cons.injEq, and_true] at e0 e1 e2
    subst e0; subst e1; subst e2
    exact ⟨(s, ns, L), An, cn, A, c, rfl, w0, ⟨hn1, hn2⟩, hN, hn, ⟨l1, l2⟩, row_at hr⟩
set_option maxRecDepth 100000 in
theorem open_op {f : Nat} {cs : List Value} {x : DataW H × List MemPlace} (h14 : cs.length = 14) (h : DataW.trod enc Tryz.prog W 0 sp held f 65 cs = some x) : ∃ y : Opn, OpC (fun _ => True) W y cs := by
  obtain ⟨xs, m, hm, _, hl, hxl, hf⟩ := DataW.trod_struct Tryz.underlying65 h
  have hxl4 : xs.length = 4 := hxl
  have k9 : Tryz.prog.cellsOf 9 = 1 := by kernel_rfl
  have kT : Tryz.prog.cellsOf 63 = 6 := by kernel_rfl
  have kB : Tryz.prog.cellsOf 4 = 1 := by kernel_rfl
  match cs, h14, xs, hxl4 with
  | [c0, a0, a1, a2, a3, a4, a5, b0, b1, b2, b3, b4, b5, c3], _, [y0, y1, y2, y3], _ =>
    have f0 : DataW.trod enc Tryz.prog W 0 sp held m 9 [c0] = some y0 := by have := hf 0 _ rfl; simpa [k9] using this
    have f1 : DataW.trod enc Tryz.prog W 0 sp held m 63 [a0, a1, a2, a3, a4, a5] = some y1 := by have := hf 1 _ rfl; simpa [kT] using this
    have f2 : DataW.trod enc Tryz.prog W 0 sp held m 63 [b0, b1, b2, b3, b4, b5] = some y2 := by have := hf 2 _ rfl; simpa [kT] using this
    have f3 : DataW.trod enc Tryz.prog W 0 sp held m 4 [c3] = some y3 := by have := hf 3 _ rfl; simpa [kB] using this
    obtain ⟨s, e0, w0⟩ := str_of f0
    obtain ⟨t1, h1⟩ := open_ty m rfl f1
    obtain ⟨t2, h2⟩ := open_ty m rfl f2
    obtain ⟨o, e3, _⟩ := DataW.trod_bool Tryz.underlying4 f3
    simp only [List.cons.injEq, and_true] at e0 e3
    subst e0; subst e3
    exact ⟨(s, t1, t2, o), [a0, a1, a2, a3, a4, a5], [b0, b1, b2, b3, b4, b5], rfl, w0, h1, h2⟩
set_option maxRecDepth 100000 in
theorem open_ef {f : Nat} {cs : List Value} {x : DataW H × List MemPlace} (h2 : cs.length = 2) (h : DataW.trod enc Tryz.prog W 0 sp held f 57 cs = some x) : ∃ y : Ef, EfC (fun _ => True) W y cs := by
  obtain ⟨xs, m, hm, _, hl, hxl, hf⟩ := DataW.trod_struct Tryz.underlying57 h
  have hxl2 : xs.length = 2 := hxl
  have k9 : Tryz.prog.cellsOf 9 = 1 := by kernel_rfl
  have kT : Tryz.prog.cellsOf 55 = 1 := by kernel_rfl
  match cs, h2, xs, hxl2 with
  | [c0, c1], _, [y0, y1], _ =>
    have f0 : DataW.trod enc Tryz.prog W 0 sp held m 9 [c0] = some y0 := by have := hf 0 _ rfl; simpa [k9] using this
    have f1 : DataW.trod enc Tryz.prog W 0 sp held m 55 [c1] = some y1 := by have := hf 1 _ rfl; simpa [kT] using this
    obtain ⟨s, e0, w0⟩ := str_of f0
    obtain ⟨A, c, L, e1, l1, l2, hr⟩ := rows_of Tryz.underlying55 (k := 14) (by kernel_rfl) (by omega) f1 (fun cs' e => OpC (fun _ => True) W e cs') fun n cs' y _ h6 ht => open_op h6 ht
    simp only [List.cons.injEq, and_true] at e0 e1
    subst e0; subst e1
    exact ⟨(s, L), A, c, rfl, w0, ⟨l1, l2⟩, row_at hr⟩
set_option maxRecDepth 100000 in
theorem open_df {f : Nat} {cs : List Value} {x : DataW H × List MemPlace} (h8 : cs.length = 8) (h : DataW.trod enc Tryz.prog W 0 sp held f 43 cs = some x) : ∃ y : Df, DfC (fun _ => True) W y cs := by
  obtain ⟨xs, m, hm, _, hl, hxl, hf⟩ := DataW.trod_struct Tryz.underlying43 h
  have hxl2 : xs.length = 2 := hxl
  have k9 : Tryz.prog.cellsOf 9 = 1 := by kernel_rfl
  have kE : Tryz.prog.cellsOf 30 = 7 := by kernel_rfl
  match cs, h8, xs, hxl2 with
  | [c0, a0, a1, a2, a3, a4, a5, a6], _, [y0, y1], _ =>
    have f0 : DataW.trod enc Tryz.prog W 0 sp held m 9 [c0] = some y0 := by have := hf 0 _ rfl; simpa [k9] using this
    have f1 : DataW.trod enc Tryz.prog W 0 sp held m 30 [a0, a1, a2, a3, a4, a5, a6] = some y1 := by have := hf 1 _ rfl; simpa [kE] using this
    obtain ⟨s, e0, w0⟩ := str_of f0
    obtain ⟨e, he⟩ := open_ex m rfl f1
    simp only [List.cons.injEq, and_true] at e0
    subst e0
    exact ⟨(s, e), [a0, a1, a2, a3, a4, a5, a6], rfl, w0, he⟩
set_option maxRecDepth 100000 in
/-- an argument that is a program -/
theorem open_prog {v : Value} {d : DataW H} {p : List MemPlace} (h : DataW.Trod enc Tryz.prog W 0 sp held 32 v d p) : ∃ g, v.cells.toList.length = 10 ∧ RepG (fun _ => True) W g v.cells.toList := by
  obtain ⟨fuel, hf⟩ := h
  obtain ⟨xs, m, hm, _, hl, hxl, hf⟩ := DataW.trod_struct Tryz.underlying32 hf
  have h10 : v.cells.toList.length = 10 := hl.trans (by kernel_rfl)
  have hxl4 : xs.length = 4 := hxl
  have kD : Tryz.prog.cellsOf 22 = 1 := by kernel_rfl
  have kF : Tryz.prog.cellsOf 23 = 1 := by kernel_rfl
  have kG : Tryz.prog.cellsOf 24 = 1 := by kernel_rfl
  have kE : Tryz.prog.cellsOf 30 = 7 := by kernel_rfl
  revert hf
  generalize v.cells.toList = cs at h10
  intro hf
  match cs, h10, xs, hxl4 with
  | [c0, c1, c2, a0, a1, a2, a3, a4, a5, a6], _, [y0, y1, y2, y3], _ =>
    have f0 : DataW.trod enc Tryz.prog W 0 sp held m 22 [c0] = some y0 := by have := hf 0 _ rfl; simpa [kD] using this
    have f1 : DataW.trod enc Tryz.prog W 0 sp held m 23 [c1] = some y1 := by have := hf 1 _ rfl; simpa [kF] using this
    have f2 : DataW.trod enc Tryz.prog W 0 sp held m 24 [c2] = some y2 := by have := hf 2 _ rfl; simpa [kG] using this
    have f3 : DataW.trod enc Tryz.prog W 0 sp held m 30 [a0, a1, a2, a3, a4, a5, a6] = some y3 := by have := hf 3 _ rfl; simpa [kE] using this
    obtain ⟨A, c, L, e0, l1, l2, hr⟩ := rows_of Tryz.underlying22 (k := 3) (by kernel_rfl) (by omega) f0 (fun cs' e => DtC (fun _ => True) W e cs') fun n cs' y _ h6 ht => open_dt h6 ht
    obtain ⟨A', c', L', e1, l1', l2', hr'⟩ := rows_of Tryz.underlying23 (k := 2) (by kernel_rfl) (by omega) f1 (fun cs' e => EfC (fun _ => True) W e cs') fun n cs' y _ h6 ht => open_ef h6 ht
    obtain ⟨B, d, M, e2, m1, m2, hm'⟩ := rows_of Tryz.underlying24 (k := 8) (by kernel_rfl) (by omega) f2 (fun cs' e => DfC (fun _ => True) W e cs') fun n cs' y _ h6 ht => open_df h6 ht
    obtain ⟨e, he⟩ := open_ex m rfl f3
    simp only [List.cons.injEq, and_true] at e0 e1 e2
    subst e0; subst e1; subst e2
    exact ⟨⟨L, L', M, e⟩, rfl, A, c, A', c', B, d, _, rfl, ⟨⟨l1, l2⟩, ⟨l1', l2'⟩, ⟨m1, m2⟩⟩, row_at hr, row_at hr', row_at hm', he⟩
end
end Go.Proofs.YtbmicnajedeenaaGreatDoor
