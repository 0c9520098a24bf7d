/- Texts put together by program: Ty SmA TyB TyC TyD RLev RTxA RTxB RTxC TyG. -/
import Derived.Test.YtndgoefhhjcllaaGreatDoorMgB
import Derived.Test.YtndgoefhhjcllaaGreatDoorMgG
import Derived.Test.YtndgoefhhjcllaaGreatDoorMgA
import Derived.Deep.RegionHeld3
import Derived.BigQuiet
import Derived.Deep.QuietTactic
/- Types as trees, how they lie in memory, and an argument that is a type, opened. -/
namespace Go.Proofs.YtndgoefhhjcllaaGreatDoor
open Go.ChangeShapes Go.WideShapes Go.Deep Go.RowKit

/-- a type: its kind, number, string, parts, labels, tail -/
inductive Ty where
  | mk (k n : Int) (s : List UInt8) (l : List Ty) (ls : List (List UInt8 × Int)) (tl : Int)
namespace Ty
def k : Ty → Int | mk k .. => k
def n : Ty → Int | mk _ n .. => n
def s : Ty → List UInt8 | mk _ _ s .. => s
def l : Ty → List Ty | mk _ _ _ l .. => l
def ls : Ty → List (List UInt8 × Int) | mk _ _ _ _ ls _ => ls
def tl : Ty → Int | mk _ _ _ _ _ tl => tl
end Ty
/-- labels lie in memory -/
def LabsAt (P : Nat → Prop) (w : World) (A : Option Addr) (L : List (List UInt8 × Int)) : Prop :=
  L ≠ [] → ∃ b off, A = some ⟨b, off, none⟩ ∧ P b ∧ b < w.heap.size ∧ ∀ (j : Nat) (x : List UInt8 × Int), L[j]? = some x → w.cell? ⟨b, off + j * 2, none⟩ = some (.string (strB x.1)) ∧ w.cell? ⟨b, off + j * 2 + 1, none⟩ = some (.int .i64 x.2)
def tyCells (k n : Int) (s : List UInt8) (Al : Option Addr) (nl cl : Nat) (Ar : Option Addr) (nr cr : Nat) (tl : Int) : List Value :=
  [.int .i64 k, .int .i64 n, .string (strB s), .slice Al nl cl, .slice Ar nr cr, .int .i64 tl]
/-- the bounds of what is read -/
structure FitsT (k n : Int) (s : List UInt8) (ls : List (List UInt8 × Int)) (tl : Int) (nl cl cr : Nat) : Prop where
  hk : okN k
  hn : okN n
  hs : okS s
  htl : okN tl
  hls : ∀ x ∈ ls, okS x.1 ∧ okN x.2
  hcl : nl ≤ cl ∧ cl ≤ maxLen
  hcr : ls.length ≤ cr ∧ cr ≤ maxLen
mutual
/-- six cells are a type, whose blocks are of some kind -/
def RepT (P : Nat → Prop) (w : World) : Ty → List Value → Prop
  | .mk k n s l ls tl, cs => ∃ Al cl Ar cr, cs = tyCells k n s Al l.length cl Ar ls.length cr tl ∧ FitsT k n s ls tl l.length cl cr ∧ LabsAt P w Ar ls ∧
      (l ≠ [] → ∃ b off, Al = some ⟨b, off, none⟩ ∧ P b ∧ b < w.heap.size ∧ RepTL P w b off l)
def RepTL (P : Nat → Prop) (w : World) (b : Nat) : Nat → List Ty → Prop
  | _, [] => True
  | off, e :: r => (∃ cs, cs.length = 6 ∧ CellsAt w b off cs ∧ RepT P w e cs) ∧ RepTL P w b (off + 6) r
end
theorem LabsAt.keep {P : Nat → Prop} {w w' : World} {A : Option Addr} {L : List (List UInt8 × Int)} (h : LabsAt P w A L) (hs : Same P w w') : LabsAt P w' A L := fun h0 => by
  obtain ⟨b, off, e, hp, hlt, hc⟩ := h h0
  exact ⟨b, off, e, hp, Nat.lt_of_lt_of_le hlt hs.1, fun j l hj => ⟨(hs.cell hp hlt _).trans (hc j l hj).1, (hs.cell hp hlt _).trans (hc j l hj).2⟩⟩
theorem LabsAt.weaken {P Q : Nat → Prop} {w : World} {A : Option Addr} {L : List (List UInt8 × Int)} (h : LabsAt P w A L) (hq : ∀ b, P b → Q b) : LabsAt Q w A L := fun h0 => by
  obtain ⟨b, off, e, hp, hlt, hc⟩ := h h0
  exact ⟨b, off, e, hq _ hp, hlt, hc⟩
mutual
theorem RepT.keep {P : Nat → Prop} {w w' : World} (hs : Same P w w') : ∀ {e : Ty} {cs : List Value}, RepT P w e cs → RepT P w' e cs
  | .mk k n s l ls tl, cs, h => by
    obtain ⟨Al, cl, Ar, cr, e, hf, hn, hl⟩ := h
    refine ⟨Al, cl, Ar, cr, e, hf, hn.keep hs, fun h0 => ?_⟩
    obtain ⟨b, off, e, hp, hlt, hr⟩ := hl h0
    exact ⟨b, off, e, hp, Nat.lt_of_lt_of_le hlt hs.1, RepTL.keep hs hp hlt hr⟩
theorem RepTL.keep {P : Nat → Prop} {w w' : World} (hs : Same P w w') {b : Nat} (hp : P b) (hlt : b < w.heap.size) : ∀ {l : List Ty} {off : Nat}, RepTL P w b off l → RepTL P w' b off l
  | [], off, _ => trivial
  | e :: r, off, h => by
    obtain ⟨⟨cs, h7, hc, he⟩, hr⟩ := h
    exact ⟨⟨cs, h7, hc.keep hp hlt hs, RepT.keep hs he⟩, RepTL.keep hs hp hlt hr⟩
end
mutual
theorem RepT.weaken {P Q : Nat → Prop} {w : World} (hq : ∀ b, P b → Q b) : ∀ {e : Ty} {cs : List Value}, RepT P w e cs → RepT Q w e cs
  | .mk k n s l ls tl, cs, h => by
    obtain ⟨Al, cl, Ar, cr, e, hf, hn, hl⟩ := h
    refine ⟨Al, cl, Ar, cr, e, hf, hn.weaken hq, fun h0 => ?_⟩
    obtain ⟨b, off, e, hp, hlt, hr⟩ := hl h0
    exact ⟨b, off, e, hq _ hp, hlt, RepTL.weaken hq hr⟩
theorem RepTL.weaken {P Q : Nat → Prop} {w : World} (hq : ∀ b, P b → Q b) {b : Nat} : ∀ {l : List Ty} {off : Nat}, RepTL P w b off l → RepTL Q w b off l
  | [], off, _ => trivial
  | e :: r, off, h => by
    obtain ⟨⟨cs, h7, hc, he⟩, hr⟩ := h
    exact ⟨⟨cs, h7, hc, RepT.weaken hq he⟩, RepTL.weaken hq hr⟩
end
theorem RepTL.at {P : Nat → Prop} {w : World} {b : Nat} : ∀ {l : List Ty} {off j : Nat} {e : Ty}, RepTL P w b off l → l[j]? = some e → ∃ cs, cs.length = 6 ∧ CellsAt w b (off + j * 6) cs ∧ RepT P w e cs
  | [], off, j, e, _, h => by simp at h
  | x :: r, off, 0, e, hr, h => by
    simp only [List.getElem?_cons_zero, Option.some.injEq] at h
    subst h
    simpa using hr.1
  | x :: r, off, j + 1, e, hr, h => by
    simp only [List.getElem?_cons_succ] at h
    have := RepTL.at hr.2 h
    rwa [show off + 6 + j * 6 = off + (j + 1) * 6 by omega] at this
theorem RepTL.of {P : Nat → Prop} {w : World} {b : Nat} : ∀ {l : List Ty} {off : Nat}, (∀ j e, l[j]? = some e → ∃ cs, cs.length = 6 ∧ CellsAt w b (off + j * 6) cs ∧ RepT P w e cs) → RepTL P w b off l
  | [], off, _ => trivial
  | x :: r, off, h => by
    refine ⟨by simpa using h 0 x rfl, RepTL.of fun j e hj => ?_⟩
    have := h (j + 1) e (by simpa using hj)
    rwa [show off + (j + 1) * 6 = off + 6 + j * 6 by omega] at this
theorem Ty.ind {P : Ty → Prop} (h : ∀ e, (∀ x ∈ e.l, P x) → P e) : ∀ e, P e := by
  have key : ∀ (n : Nat) (e : Ty), SizeOf.sizeOf e ≤ n → P e := by
    intro n
    induction n with
    | zero => intro e he; cases e; simp at he
    | succ n ih =>
      intro e he
      refine h e fun x hx => ih x ?_
      cases e with
      | mk k m s l ls tl =>
        simp only [Ty.mk.sizeOf_spec] at he
        have := List.sizeOf_lt_of_mem (show x ∈ l from hx); omega
  exact fun e => key _ e (Nat.le_refl _)
/-- the six cells of a type -/
theorem RepT.shape {P : Nat → Prop} {w : World} {e : Ty} {cs : List Value} (h : RepT P w e cs) : ∃ k n s A0 n0 c0 A1 n1 c1 tl, cs = [.int .i64 k, .int .i64 n, .string s, .slice A0 n0 c0, .slice A1 n1 c1, .int .i64 tl] := by
  cases e
  obtain ⟨Al, cl, Ar, cr, e, _⟩ := h
  exact ⟨_, _, _, _, _, _, _, _, _, _, e⟩

section
variable {H : Type} {enc : TypeId × Value → H} {W : World} {sp : Nat → Bool} {held : Bool}
set_option maxRecDepth 100000 in
theorem label_of {f : Nat} {cs : List Value} {x : DataW H × List MemPlace} (h2 : cs.length = 2) (h : DataW.trod enc Tryz.prog W 0 sp held f 107 cs = some x) : ∃ y : List UInt8 × Int, (okS y.1 ∧ okN y.2) ∧ cs = [.string (strB y.1), .int .i64 y.2] := by
  obtain ⟨xs, m, hm, _, hl, hxl, hf⟩ := DataW.trod_struct Tryz.underlying107 h
  have hxl2 : xs.length = 2 := hxl
  have k3 : Tryz.prog.cellsOf 3 = 1 := by kernel_rfl
  have k9 : Tryz.prog.cellsOf 9 = 1 := by kernel_rfl
  match cs, h2, xs, hxl2 with
  | [c0, c1], _, [y0, y1], _ =>
    have f0 : DataW.trod enc Tryz.prog W 0 sp held m 9 [c0] = some y0 := by have := hf 0 _ rfl; simpa [k9] using this
    have f1 : DataW.trod enc Tryz.prog W 0 sp held m 3 [c1] = some y1 := by have := hf 1 _ rfl; simpa [k3] using this
    obtain ⟨s, e0, w0⟩ := str_of f0
    obtain ⟨n, e1, w1⟩ := int_of Tryz.underlying3 f1
    simp only [List.cons.injEq, and_true] at e0 e1
    subst e0; subst e1
    exact ⟨(s, n), ⟨w0, w1⟩, rfl⟩
theorem open_labels {cs : List Value} {x : DataW H × List MemPlace} {f : Nat} (h : DataW.trod enc Tryz.prog W 0 sp held f 37 cs = some x) :
    ∃ A c, ∃ L : List (List UInt8 × Int), cs = [.slice A L.length c] ∧ L.length ≤ c ∧ c ≤ maxLen ∧ LabsAt (fun _ => True) W A L ∧ ∀ s ∈ L, okS s.1 ∧ okN s.2 := by
  obtain ⟨A, c, L, e, hl, hm, hr⟩ := rows_of Tryz.underlying37 (k := 2) (by kernel_rfl) (by omega) h (fun cs' (y : List UInt8 × Int) => (okS y.1 ∧ okN y.2) ∧ cs' = [.string (strB y.1), .int .i64 y.2]) fun n cs' y _ h2 ht => label_of h2 ht
  refine ⟨A, c, L, e, hl, hm, fun h0 => ?_, fun s hs => ?_⟩
  · obtain ⟨b, off, ea, hlt, hp⟩ := hr h0
    refine ⟨b, off, ea, trivial, hlt, fun j l hj => ?_⟩
    obtain ⟨cs', _, hc, _, rfl⟩ := hp j l hj
    exact ⟨by have := hc 0 _ rfl; simpa using this, by have := hc 1 _ rfl; simpa using this⟩
  · obtain ⟨b, off, ea, hlt, hp⟩ := hr (List.ne_nil_of_mem hs)
    obtain ⟨i, hil, rfl⟩ := List.getElem_of_mem hs
    obtain ⟨_, _, _, h, _⟩ := hp i _ (List.getElem?_eq_getElem hil)
    exact h
set_option maxRecDepth 100000 in
theorem open_row {cs : List Value} {x : DataW H × List MemPlace} {f : Nat} (h2 : cs.length = 2) (h : DataW.trod enc Tryz.prog W 0 sp held f 39 cs = some x) :
    ∃ A c, ∃ L : List (List UInt8 × Int), ∃ tl, cs = [.slice A L.length c, .int .i64 tl] ∧ L.length ≤ c ∧ c ≤ maxLen ∧ LabsAt (fun _ => True) W A L ∧ (∀ s ∈ L, okS s.1 ∧ okN s.2) ∧ okN tl := by
  obtain ⟨xs, m, hm, _, hl, hxl, hf⟩ := DataW.trod_struct Tryz.underlying39 h
  have hxl2 : xs.length = 2 := hxl
  have k3 : Tryz.prog.cellsOf 3 = 1 := by kernel_rfl
  have kL : Tryz.prog.cellsOf 37 = 1 := by kernel_rfl
  match cs, h2, xs, hxl2 with
  | [c0, c1], _, [y0, y1], _ =>
    have f0 : DataW.trod enc Tryz.prog W 0 sp held m 37 [c0] = some y0 := by have := hf 0 _ rfl; simpa [kL] using this
    have f1 : DataW.trod enc Tryz.prog W 0 sp held m 3 [c1] = some y1 := by have := hf 1 _ rfl; simpa [k3] using this
    obtain ⟨A, c, L, e0, g1, g2, g3, g4⟩ := open_labels f0
    obtain ⟨n, e1, w1⟩ := int_of Tryz.underlying3 f1
    simp only [List.cons.injEq, and_true] at e0 e1
    subst e0; subst e1
    exact ⟨A, c, L, n, rfl, g1, g2, g3, g4, w1⟩
set_option maxRecDepth 100000 in
/-- six cells that read as a type -/
theorem open_ty (f : Nat) : ∀ {cs : List Value} {x : DataW H × List MemPlace}, cs.length = 6 → DataW.trod enc Tryz.prog W 0 sp held f 41 cs = some x → ∃ e, RepT (fun _ => True) W e cs := by
  induction f using Nat.strongRecOn with
  | ind f ih =>
    intro cs x h6 h
    obtain ⟨xs, m, hm, _, hl, hxl, hf⟩ := DataW.trod_struct Tryz.underlying41 h
    have hxl5 : xs.length = 5 := hxl
    have k0 : Tryz.prog.cellsOf 35 = 1 := by kernel_rfl
    have k3 : Tryz.prog.cellsOf 3 = 1 := by kernel_rfl
    have k9 : Tryz.prog.cellsOf 9 = 1 := by kernel_rfl
    have kL : Tryz.prog.cellsOf 36 = 1 := by kernel_rfl
    have kR : Tryz.prog.cellsOf 39 = 2 := by kernel_rfl
    match cs, h6, xs, hxl5 with
    | [c0, c1, c2, c3, c4, c5], _, [y0, y1, y2, y3, y4], _ =>
      have f0 : DataW.trod enc Tryz.prog W 0 sp held m 35 [c0] = some y0 := by have := hf 0 _ rfl; simpa [k0] using this
      have f1 : DataW.trod enc Tryz.prog W 0 sp held m 3 [c1] = some y1 := by have := hf 1 _ rfl; simpa [k3] using this
      have f2 : DataW.trod enc Tryz.prog W 0 sp held m 9 [c2] = some y2 := by have := hf 2 _ rfl; simpa [k9] using this
      have f3 : DataW.trod enc Tryz.prog W 0 sp held m 36 [c3] = some y3 := by have := hf 3 _ rfl; simpa [kL] using this
      have f4 : DataW.trod enc Tryz.prog W 0 sp held m 39 [c4, c5] = some y4 := by have := hf 4 _ rfl; simpa [kR] using this
      obtain ⟨k, e0, w0⟩ := int_of Tryz.underlying35 f0
      obtain ⟨n, e1, w1⟩ := int_of Tryz.underlying3 f1
      obtain ⟨s, e2, w2⟩ := str_of f2
      obtain ⟨Al, cl, l, e3, hl1, hl2, hL⟩ := rows_of Tryz.underlying36 (k := 6) (by kernel_rfl) (by omega) f3 (fun cs' e => RepT (fun _ => True) W e cs') fun n cs' y hlt h7 ht => ih n (by omega) h7 ht
      obtain ⟨Ar, cr, ls, tl, e4, hr1, hr2, hr3, hr4, hr5⟩ := open_row rfl f4
      simp only [List.cons.injEq, and_true] at e0 e1 e2 e3 e4
      obtain ⟨e4, e5⟩ := e4
      subst e0; subst e1; subst e2; subst e3; subst e4; subst e5
      refine ⟨.mk k n s l ls tl, Al, cl, Ar, cr, rfl, ⟨w0, w1, w2, hr5, hr4, ⟨hl1, hl2⟩, ⟨hr1, hr2⟩⟩, hr3, fun h0 => ?_⟩
      obtain ⟨b, off, e, hlt, hr⟩ := hL h0
      exact ⟨b, off, e, trivial, hlt, RepTL.of hr⟩
/-- an argument that is a type -/
theorem open_type {v : Value} {d : DataW H} {p : List MemPlace} (h : DataW.Trod enc Tryz.prog W 0 sp held 41 v d p) : ∃ e, v.cells.toList.length = 6 ∧ RepT (fun _ => True) W e v.cells.toList := by
  obtain ⟨fuel, hf⟩ := h
  obtain ⟨_, _, _, _, hl, _, _⟩ := DataW.trod_struct Tryz.underlying41 hf
  have h6 : v.cells.toList.length = 6 := hl.trans (by kernel_rfl)
  obtain ⟨e, he⟩ := open_ty fuel h6 hf
  exact ⟨e, h6, he⟩
end
end Go.Proofs.YtndgoefhhjcllaaGreatDoor
/- Lists of strings, compared: the reference's SameNames, slices.Equal. -/
namespace Go.Proofs.YtndgoefhhjcllaaGreatDoor
open Go.RowKit

/-- a world that has only drawn -/
def Qt (w w' : World) : Prop := ∃ q, w' = w.drewN q
theorem Qt.refl (w : World) : Qt w w := ⟨0, rfl⟩
theorem Qt.drew {w w' : World} (h : Qt w w') : Qt w w'.drew := by
  obtain ⟨q, rfl⟩ := h
  exact ⟨q + 1, by simp [World.drewN, World.drew, Nat.add_assoc]⟩
theorem Qt.cell {w w' : World} (h : Qt w w') (a : Addr) : w'.cell? a = w.cell? a := by
  obtain ⟨q, rfl⟩ := h; rfl
theorem Qt.below {w w' : World} (h : Qt w w') : Below w.heap.size w w' := by
  obtain ⟨q, rfl⟩ := h
  exact ⟨rfl, rfl, rfl, Nat.le_refl _, fun _ _ => rfl⟩
set_option maxRecDepth 100000 in
set_option maxHeartbeats 2000000 in
theorem sameNames_any (P Q : Nat → Prop) (A B : Option Addr) (c d : Nat) (L M : List Txt) (w : World) (hL : NamesAt P w A L) (hM : NamesAt Q w B M) (hl : L.length ≤ maxLen ∧ M.length ≤ maxLen) :
    Calls Tryz.prog 50 #[.slice A L.length c, .slice B M.length d] w fun e w' => e = .returned (.bool (decide (L = M))) ∧ Qt w w' := by
  obtain ⟨n, hn⟩ : ∃ n, n = L.length := ⟨_, rfl⟩
  obtain ⟨m, hm⟩ : ∃ n, n = M.length := ⟨_, rfl⟩
  have hl1 : (n : Int) ≤ 9223372036854775807 := by have := hl.1; unfold maxLen at this; omega
  have hl2 : (m : Int) ≤ 9223372036854775807 := by have := hl.2; unfold maxLen at this; omega
  have HL := Lib.hid hL
  have HM := Lib.hid hM
  have HN := Lib.hid hn
  have HNm := Lib.hid hm
  rw [← hn, ← hm]
  obtain ⟨r, hr⟩ : ∃ r, r = decide (L = M) := ⟨_, rfl⟩
  rw [← hr]
  clear hL hM hn hm hl
  by_cases hnm : n = m
  · subst hnm
    have h1 : ((n : Int) != (n : Int)) = false := by simp
    have HR := Lib.hid hr
    clear hr
    go_enter Tryz.func50, Tryz.ntmps50
    go_wp2_with fail
    go_loopw [5] (fun i wr => ∃ k : Nat, k ≤ n ∧ i = .int .i64 (k : Int) ∧ Hid (Qt w wr) ∧ Hid (L.take k = M.take k)) (fun i _ => n - (intOf i).toNat)
    case atStart => exact ⟨0, Nat.zero_le _, rfl, Lib.hid (Qt.refl _), Lib.hid rfl⟩
    case round =>
      obtain ⟨k, hk, rfl, hB, hE⟩ := hrel
      by_cases hkn : k < n
      · have hk1 : k < L.length := by rw [← HN.out]; exact hkn
        have hk2 : k < M.length := by rw [← HNm.out]; exact hkn
        obtain ⟨b, off, rfl, _, hlt, hc⟩ := HL.out (List.ne_nil_of_length_pos (by omega))
        obtain ⟨b2, off2, rfl, _, hlt2, hc2⟩ := HM.out (List.ne_nil_of_length_pos (by omega))
        have d1 := (hB.out.cell ⟨b, _, none⟩).trans (hc k L[k] (List.getElem?_eq_getElem hk1))
        have d2 := (hB.out.cell ⟨b2, _, none⟩).trans (hc2 k M[k] (List.getElem?_eq_getElem hk2))
        have i0 : (0 : Int) ≤ (k : Int) := by omega
        have i1 : (k : Int) < (n : Int) := by omega
        by_cases he : L[k] = M[k]
        · have HE : Hid (L.take (k + 1) = M.take (k + 1)) := Lib.hid (by rw [take_succ_of hk1, take_succ_of hk2, hE.out, he])
          rw [← he] at d2
          obtain ⟨x, hx⟩ : ∃ x, x = strB L[k] := ⟨_, rfl⟩
          rw [← hx] at d1 d2
          clear hc hc2 he hx hlt hlt2
          go_wp2_with fail
          go_region_held3 (fun w' => w'.cell? ⟨b, off + k, none⟩ = some (.string x) ∧ w'.cell? ⟨b2, off2 + k, none⟩ = some (.string x) ∧ Qt w w')
            ((exact ⟨d1, d2, hB.out.drew⟩))
            (fail)
          rename_i hh
          have HB2 := Lib.hid hh.2.2
          clear hh d1 d2
          go_wp2_with fail
          go_roundw
          case rel => exact ⟨k + 1, by omega, by go_num, HB2, HE⟩
          case measure => simp [intOf]; omega
        · have HRf : Hid (r = false) := Lib.hid (by
            rw [HR.out]
            refine decide_eq_false (fun h => he ?_)
            subst h; rfl)
          have hne : ((strB L[k]).toList == (strB M[k]).toList) = false := by
            rw [ByteArray.toList_eq, ByteArray.toList_eq, data_strB, data_strB]; exact beq_eq_false_iff_ne.2 he
          obtain ⟨x, hx⟩ : ∃ x, x = strB L[k] := ⟨_, rfl⟩
          obtain ⟨y, hy⟩ : ∃ x, x = strB M[k] := ⟨_, rfl⟩
          rw [← hx] at d1 hne
          rw [← hy] at d2 hne
          clear hc hc2 he hx hy hlt hlt2
          go_wp2_with fail
          go_region_held3 (fun w' => w'.cell? ⟨b, off + k, none⟩ = some (.string x) ∧ w'.cell? ⟨b2, off2 + k, none⟩ = some (.string y) ∧ Qt w w')
            ((exact ⟨d1, d2, hB.out.drew⟩))
            (fail)
          rename_i hh
          have HB2 := Lib.hid hh.2.2
          clear hh d1 d2
          go_wp2_with fail
          go_ret
          exact ⟨by rw [HRf.out]; rfl, HB2.out⟩
      · obtain rfl : k = n := by omega
        have HRt : Hid (r = true) := Lib.hid (by
          rw [HR.out]
          refine decide_eq_true ?_
          have h := hE.out
          rw [List.take_of_length_le (by rw [← HN.out]; exact Nat.le_refl _), List.take_of_length_le (by rw [← HNm.out]; exact Nat.le_refl _)] at h
          exact h)
        go_wp2_with fail
        go_ret
        exact ⟨by rw [HRt.out]; rfl, hB.out⟩
  · have HR : Hid (r = false) := Lib.hid (by rw [hr]; exact decide_eq_false (fun h => hnm (by rw [HN.out, HNm.out, h])))
    have h1 : ((n : Int) != (m : Int)) = true := by simp; omega
    have h2 : ((n : Int) == (m : Int)) = false := by simp; omega
    clear hr hnm
    go_enter Tryz.func50, Tryz.ntmps50
    go_wp2_with fail
    go_ret
    exact ⟨by rw [HR.out]; rfl, Qt.refl _⟩
theorem getD_strB (L : List Txt) (j : Nat) (h : j < L.length) : (L.map strB).getD j ByteArray.empty = strB L[j] := by
  rw [List.getD_eq_getElem?_getD, List.getElem?_map, List.getElem?_eq_getElem h]; rfl
theorem strB_inj {a b : Txt} (h : strB a = strB b) : a = b := by
  have := congrArg (fun x : ByteArray => x.data.toList) h
  simpa [data_strB] using this
theorem map_strB_eq (L M : List Txt) : L.map strB = M.map strB ↔ L = M := by
  constructor
  · intro h
    have := congrArg (List.map fun x : ByteArray => x.data.toList) h
    simpa [List.map_map, Function.comp_def, data_strB] using this
  · intro h; rw [h]
theorem eqNames_any (P Q : Nat → Prop) (A B : Option Addr) (c d : Nat) (L M : List Txt) (w : World) (hL : NamesAt P w A L) (hM : NamesAt Q w B M) (hl : L.length ≤ maxLen ∧ M.length ≤ maxLen) :
    Calls Tryz.prog 109 #[.slice A L.length c, .slice B M.length d] w fun e w' => e = .returned (.bool (decide (L = M))) ∧ Qt w w' := by
  obtain ⟨hl1, hl2⟩ := hl
  unfold maxLen at hl1 hl2
  by_cases hnm : L.length = M.length
  · by_cases h0 : L = []
    · subst h0
      have h1 : M = [] := List.length_eq_zero_iff.1 hnm.symm
      subst h1
      exact (Tryz.slices_Equal_string_empty A B c 0 d w (by omega)).mono fun e w' ⟨h1, h2⟩ => ⟨by rw [h1]; simp, by rw [h2]; exact Qt.refl _⟩
    · have h1 : M ≠ [] := fun h => h0 (List.length_eq_zero_iff.1 (by rw [hnm, h]; rfl))
      obtain ⟨b, off, rfl, _, hlt, hc⟩ := hL h0
      obtain ⟨b2, off2, rfl, _, hlt2, hc2⟩ := hM h1
      refine (Tryz.slices_Equal_string b off L.length c b2 off2 M.length d (L.map strB) (M.map strB) w (by simp) (by simp) (by omega) (by omega) (fun j hj => ?_) (fun j hj => ?_)).mono fun e w' ⟨g1, q, g2⟩ => ⟨?_, ?_⟩
      · rw [List.length_map] at hj
        rw [getD_strB L j hj]; exact hc j _ (List.getElem?_eq_getElem hj)
      · rw [List.length_map] at hj
        rw [getD_strB M j hj]; exact hc2 j _ (List.getElem?_eq_getElem hj)
      · rw [g1, List.take_of_length_le (by simp), List.take_of_length_le (by simp)]
        congr 2
        exact decide_eq_decide.2 (map_strB_eq L M)
      · exact ⟨q, g2⟩
  · exact (Tryz.slices_Equal_string_lens A B L.length c M.length d w hnm).mono fun e w' ⟨h1, h2⟩ => ⟨by rw [h1]; congr 2; exact (decide_eq_false (fun h => hnm (by rw [h]))).symm, by rw [h2]; exact Qt.refl _⟩
end Go.Proofs.YtndgoefhhjcllaaGreatDoor
/- Types in memory: parts, boxes; how deep; what the statements hold for too large. -/
namespace Go.Proofs.YtndgoefhhjcllaaGreatDoor
open Go.RowKit

theorem LabsAt.tight {P : Nat → Prop} {w : World} {A : Option Addr} {L : List (List UInt8 × Int)} (h : LabsAt P w A L) : LabsAt (fun x => x < w.heap.size) w A L := fun h0 => by
  obtain ⟨b, off, e, _, hlt, hc⟩ := h h0
  exact ⟨b, off, e, hlt, hlt, hc⟩
mutual
theorem RepT.tight {P : Nat → Prop} {w : World} : ∀ {e : Ty} {cs : List Value}, RepT P w e cs → RepT (fun x => x < w.heap.size) w e cs
  | .mk k n s l ls tl, cs, h => by
    obtain ⟨Al, cl, Ar, cr, e, hf, hn, hl⟩ := h
    refine ⟨Al, cl, Ar, cr, e, hf, hn.tight, fun h0 => ?_⟩
    obtain ⟨b, off, e, _, hlt, hr⟩ := hl h0
    exact ⟨b, off, e, hlt, hlt, RepTL.tight hr⟩
theorem RepTL.tight {P : Nat → Prop} {w : World} {b : Nat} : ∀ {l : List Ty} {off : Nat}, RepTL P w b off l → RepTL (fun x => x < w.heap.size) w b off l
  | [], _, _ => trivial
  | _ :: _, _, h => by
    obtain ⟨⟨cs, h7, hc, he⟩, hr⟩ := h
    exact ⟨⟨cs, h7, hc, RepT.tight he⟩, RepTL.tight hr⟩
end
/-- a type's six cells fill block g -/
def TyBx (w : World) (g : Nat) (v0 v1 v2 v3 v4 v5 : Value) : Prop := w.heap[g]? = some (.cells #[v0, v1, v2, v3, v4, v5] 41 (0, 0))
section
variable {w w' : World} {g : Nat} {v0 v1 v2 v3 v4 v5 : Value}
theorem TyBx.lt (h : TyBx w g v0 v1 v2 v3 v4 v5) : g < w.heap.size := (Array.getElem?_eq_some_iff.1 h).1
theorem TyBx.c (h : TyBx w g v0 v1 v2 v3 v4 v5) : w.cell? ⟨g, 0, none⟩ = some v0 ∧ w.cell? ⟨g, 1, none⟩ = some v1 ∧ w.cell? ⟨g, 2, none⟩ = some v2 ∧ w.cell? ⟨g, 3, none⟩ = some v3 ∧ w.cell? ⟨g, 4, none⟩ = some v4 ∧ w.cell? ⟨g, 5, none⟩ = some v5 :=
  ⟨cell_of_row w g 0 _ _ (0, 0) h, cell_of_row w g 1 _ _ (0, 0) h, cell_of_row w g 2 _ _ (0, 0) h, cell_of_row w g 3 _ _ (0, 0) h, cell_of_row w g 4 _ _ (0, 0) h, cell_of_row w g 5 _ _ (0, 0) h⟩
theorem TyBx.new (w : World) (v0 v1 v2 v3 v4 v5 : Value) : TyBx (w.alloc (.cells #[v0, v1, v2, v3, v4, v5] 41)) w.heap.size v0 v1 v2 v3 v4 v5 := heap_alloc_new w _
theorem TyBx.kept (h : TyBx w g v0 v1 v2 v3 v4 v5) {row : Option Nat} (hg : w.grownBy w' row) (hne : some g ≠ row) : TyBx w' g v0 v1 v2 v3 v4 v5 := (hg.block g h.lt hne).trans h
end
/-- the cells of a part of a type -/
structure TCells (B : Nat) (w : World) (b o : Nat) (e : Ty) (k n : Int) (s : ByteArray) (A0 : Option Addr) (n0 c0 : Nat) (A1 : Option Addr) (n1 c1 : Nat) (tl : Int) : Prop where
  rep : RepT (fun b => b < B) w e [.int .i64 k, .int .i64 n, .string s, .slice A0 n0 c0, .slice A1 n1 c1, .int .i64 tl]
  d0 : w.cell? ⟨b, o, none⟩ = some (.int .i64 k)
  d1 : w.cell? ⟨b, o + 1, none⟩ = some (.int .i64 n)
  d2 : w.cell? ⟨b, o + 2, none⟩ = some (.string s)
  d3 : w.cell? ⟨b, o + 3, none⟩ = some (.slice A0 n0 c0)
  d4 : w.cell? ⟨b, o + 4, none⟩ = some (.slice A1 n1 c1)
  d5 : w.cell? ⟨b, o + 5, none⟩ = some (.int .i64 tl)
def TParts (B : Nat) (w : World) (A : Option Addr) (l : List Ty) : Prop :=
  l ≠ [] → ∃ b off, A = some ⟨b, off, none⟩ ∧ b < B ∧ b < w.heap.size ∧ ∀ j e, l[j]? = some e → ∃ k n s A0 n0 c0 A1 n1 c1 tl, TCells B w b (off + j * 6) e k n s A0 n0 c0 A1 n1 c1 tl
theorem tparts_of {B : Nat} {w : World} {l : List Ty} {Al : Option Addr} (h : l ≠ [] → ∃ b off, Al = some ⟨b, off, none⟩ ∧ b < B ∧ b < w.heap.size ∧ RepTL (fun b => b < B) w b off l) : TParts B w Al l := fun h0 => by
  obtain ⟨b, off, rfl, hb, hlt, hr⟩ := h h0
  refine ⟨b, off, rfl, hb, hlt, fun j e hj => ?_⟩
  obtain ⟨cs, h7, hc, hr⟩ := RepTL.at hr hj
  obtain ⟨k, n, s, A0, n0, c0, A1, n1, c1, tl, rfl⟩ := hr.shape
  exact ⟨k, n, s, A0, n0, c0, A1, n1, c1, tl, hr, hc 0 _ rfl, hc 1 _ rfl, hc 2 _ rfl, hc 3 _ rfl, hc 4 _ rfl, hc 5 _ rfl⟩
theorem TParts.below {B : Nat} {w w' : World} {A : Option Addr} {l : List Ty} (h : TParts B w A l) (hb : Below w.heap.size w w') : TParts B w' A l := fun h0 => by
  obtain ⟨b, off, e, h1, h2, hc⟩ := h h0
  have kk : ∀ o, w'.cell? ⟨b, o, none⟩ = w.cell? ⟨b, o, none⟩ := fun o => Below.cell (p := ⟨b, o, none⟩) hb h2
  refine ⟨b, off, e, h1, Nat.lt_of_lt_of_le h2 hb.size, fun j e hj => ?_⟩
  obtain ⟨k, n, s, A0, n0, c0, A1, n1, c1, tl, H⟩ := hc j e hj
  exact ⟨k, n, s, A0, n0, c0, A1, n1, c1, tl, H.rep.keep (Same.of_below hb), (kk _).trans H.d0, (kk _).trans H.d1, (kk _).trans H.d2, (kk _).trans H.d3, (kk _).trans H.d4, (kk _).trans H.d5⟩
theorem TParts.addr {B : Nat} {w : World} {A : Option Addr} {l : List Ty} (h : TParts B w A l) (h0 : 0 < l.length) : ∃ b off, A = some ⟨b, off, none⟩ := by
  obtain ⟨b, off, e, _⟩ := h (List.ne_nil_of_length_pos h0)
  exact ⟨b, off, e⟩
theorem TParts.at {B : Nat} {w : World} {b off : Nat} {l : List Ty} (h : TParts B w (some ⟨b, off, none⟩) l) {j : Nat} {e : Ty} (hj : l[j]? = some e) : b < w.heap.size ∧ ∃ k n s A0 n0 c0 A1 n1 c1 tl, TCells B w b (off + j * 6) e k n s A0 n0 c0 A1 n1 c1 tl := by
  obtain ⟨b', off', e', hb, hlt, hc⟩ := h (fun h0 => by rw [h0] at hj; simp at hj)
  injection e' with e'
  injection e' with e1 e2 e3
  subst e1; subst e2
  exact ⟨hlt, hc j e hj⟩
theorem TCells.up {B b o : Nat} {w W1 : World} {e : Ty} {k n : Int} {s : ByteArray} {A0 : Option Addr} {n0 c0 : Nat} {A1 : Option Addr} {n1 c1 : Nat} {tl : Int} (h : TCells B w b o e k n s A0 n0 c0 A1 n1 c1 tl) (hb : b < w.heap.size) (hB : Below w.heap.size w W1) :
    W1.cell? ⟨b, o, none⟩ = some (.int .i64 k) ∧ W1.cell? ⟨b, o + 1, none⟩ = some (.int .i64 n) ∧ W1.cell? ⟨b, o + 2, none⟩ = some (.string s) ∧ W1.cell? ⟨b, o + 3, none⟩ = some (.slice A0 n0 c0) ∧ W1.cell? ⟨b, o + 4, none⟩ = some (.slice A1 n1 c1) ∧ W1.cell? ⟨b, o + 5, none⟩ = some (.int .i64 tl) := by
  have k : ∀ o, W1.cell? ⟨b, o, none⟩ = w.cell? ⟨b, o, none⟩ := fun o => Below.cell (p := ⟨b, o, none⟩) hB hb
  exact ⟨(k _).trans h.d0, (k _).trans h.d1, (k _).trans h.d2, (k _).trans h.d3, (k _).trans h.d4, (k _).trans h.d5⟩

mutual
def hT : Ty → Nat
  | .mk _ _ _ l _ _ => 1 + hTL l
def hTL : List Ty → Nat
  | [] => 0
  | x :: r => max (hT x) (hTL r)
end
theorem hTL_mem : ∀ {l : List Ty} {x : Ty}, x ∈ l → hT x ≤ hTL l
  | y :: r, x, h => by
    rcases List.mem_cons.1 h with rfl | h
    · rw [hTL]; exact Nat.le_max_left _ _
    · rw [hTL]; exact Nat.le_trans (hTL_mem h) (Nat.le_max_right _ _)
theorem hT_eq (t : Ty) : hT t = 1 + hTL t.l := by cases t; rw [hT]; rfl

/-- some label's name is too long -/
def longLs (ls : List (Txt × Int)) : Bool := ls.any fun x => decide (100 < x.1.length)
mutual
/-- how many more nodes there may be; below 0: there are more -/
def tleftP : Ty → Int → Int → Int
  | .mk _ _ s l ls _, nodes, d => if d < 1 ∨ 100 < s.length ∨ 50 < l.length ∨ 50 < ls.length ∨ longLs ls = true then -1 else tleftL l (nodes - 1) (d - 1)
def tleftL : List Ty → Int → Int → Int
  | [], nodes, _ => nodes
  | e :: r, nodes, d => if nodes < 0 then nodes else tleftL r (tleftP e nodes d) d
end
theorem tleftL_neg (l : List Ty) (nodes d : Int) (h : nodes < 0) : tleftL l nodes d = nodes := by
  cases l with
  | nil => rfl
  | cons e r => rw [tleftL, if_pos h]
mutual
theorem tleftP_le : ∀ (e : Ty) (nodes d : Int), 0 ≤ nodes → tleftP e nodes d ≤ nodes ∧ -1 ≤ tleftP e nodes d
  | .mk k n s l ls tl, nodes, d, h => by
    rw [tleftP]
    split
    · omega
    · have h1 := tleftL_le l (nodes - 1) (d - 1) (by omega)
      omega
theorem tleftL_le : ∀ (l : List Ty) (nodes d : Int), -1 ≤ nodes → tleftL l nodes d ≤ nodes ∧ -1 ≤ tleftL l nodes d
  | [], nodes, d, h => by rw [tleftL]; omega
  | e :: r, nodes, d, h => by
    rw [tleftL]
    split
    · omega
    · have h1 := tleftP_le e nodes d (by omega)
      have h2 := tleftL_le r (tleftP e nodes d) d h1.2
      omega
end
theorem tleftL_snoc : ∀ (l : List Ty) (e : Ty) (nodes d : Int), tleftL (l ++ [e]) nodes d = if tleftL l nodes d < 0 then tleftL l nodes d else tleftP e (tleftL l nodes d) d
  | [], e, nodes, d => by simp only [List.nil_append, tleftL]; rfl
  | x :: r, e, nodes, d => by
    rw [List.cons_append, tleftL, tleftL]
    by_cases h : nodes < 0
    · simp only [if_pos h]
    · simp only [if_neg h]
      exact tleftL_snoc r e _ d
theorem tleftL_app : ∀ (a b : List Ty) (nodes d : Int), tleftL (a ++ b) nodes d = tleftL b (tleftL a nodes d) d
  | [], b, nodes, d => by rw [List.nil_append, tleftL]
  | x :: r, b, nodes, d => by
    rw [List.cons_append, tleftL, tleftL]
    by_cases h : nodes < 0
    · simp only [if_pos h]; rw [tleftL_neg _ _ _ h]
    · simp only [if_neg h]; exact tleftL_app r b _ d
theorem tleftL_end {l : List Ty} {j : Nat} {nodes d N : Int} (hN : N = tleftL (l.take j) nodes d) (h : N < 0 ∨ l.length ≤ j) : N = tleftL l nodes d := by
  rcases h with h | h
  · have := tleftL_app (l.take j) (l.drop j) nodes d
    rw [List.take_append_drop, ← hN, tleftL_neg _ _ _ h] at this
    exact this.symm
  · rw [hN, List.take_of_length_le h]
theorem tleftL_step {l : List Ty} {j : Nat} {nodes d N : Int} {e : Ty} (hN : N = tleftL (l.take j) nodes d) (h : 0 ≤ N) (he : l[j]? = some e) : tleftP e N d = tleftL (l.take (j + 1)) nodes d := by
  have hj := (List.getElem?_eq_some_iff.1 he).1
  rw [List.take_succ_eq_append_getElem hj, tleftL_snoc, ← hN, if_neg (by omega)]
  rw [List.getElem?_eq_getElem hj, Option.some.injEq] at he
  rw [he]
mutual
theorem tleftP_hT : ∀ (e : Ty) (nodes d : Int), 0 ≤ tleftP e nodes d → (hT e : Int) ≤ d
  | .mk k n s l ls tl, nodes, d, h => by
    rw [tleftP] at h
    split at h
    · omega
    · rename_i hc
      have c1 : ¬ d < 1 := fun h => hc (.inl h)
      have g1 := tleftL_hT l (nodes - 1) (d - 1) h
      rw [hT]
      rcases g1 with rfl | g1
      · simp only [hTL]; omega
      · omega
theorem tleftL_hT : ∀ (l : List Ty) (nodes d : Int), 0 ≤ tleftL l nodes d → l = [] ∨ (hTL l : Int) ≤ d
  | [], nodes, d, _ => .inl rfl
  | e :: r, nodes, d, h => by
    rw [tleftL] at h
    split at h
    · omega
    · have h1 : 0 ≤ tleftP e nodes d := by
        by_cases h0 : tleftP e nodes d < 0
        · rw [tleftL_neg _ _ _ h0] at h; omega
        · omega
      have g1 := tleftP_hT e nodes d h1
      have g2 := tleftL_hT r _ d h
      right
      rw [hTL]
      rcases g2 with rfl | g2
      · simp only [hTL]; omega
      · omega
end
def greatT (t : Ty) : Bool := decide (tleftP t 4000 250 < 0)
theorem greatT_hT {t : Ty} (h : greatT t = false) : hT t ≤ 250 := by
  unfold greatT at h
  have := tleftP_hT t 4000 250 (by simpa using h)
  omega
/-- types, compared -/
def hdT (a b : Ty) : Bool := decide (a.k = b.k) && (decide (a.n = b.n) && (decide (a.s = b.s) && (decide (a.ls = b.ls) && decide (a.tl = b.tl))))
mutual
def sameT : Ty → Ty → Bool
  | .mk k n s l ls tl, .mk k' n' s' l' ls' tl' => hdT (.mk k n s l ls tl) (.mk k' n' s' l' ls' tl') && sameTL l l'
def sameTL : List Ty → List Ty → Bool
  | [], [] => true
  | x :: r, y :: q => sameT x y && sameTL r q
  | _, _ => false
end
theorem sameT_eq (a b : Ty) : sameT a b = (hdT a b && sameTL a.l b.l) := by
  cases a; cases b; rw [sameT]; rfl
theorem sameTL_len : ∀ {l m : List Ty}, sameTL l m = true → l.length = m.length
  | [], [], _ => rfl
  | [], _ :: _, h => by simp [sameTL] at h
  | _ :: _, [], h => by simp [sameTL] at h
  | x :: r, y :: q, h => by
    rw [sameTL, Bool.and_eq_true] at h
    rw [List.length_cons, List.length_cons, sameTL_len h.2]
theorem sameTL_snoc : ∀ {l m : List Ty} (x y : Ty), l.length = m.length → sameTL (l ++ [x]) (m ++ [y]) = (sameTL l m && sameT x y)
  | [], [], x, y, _ => by simp [sameTL]
  | [], _ :: _, _, _, h => by simp at h
  | _ :: _, [], _, _, h => by simp at h
  | a :: r, b :: q, x, y, h => by
    rw [List.cons_append, List.cons_append, sameTL, sameTL, sameTL_snoc x y (by simpa using h), Bool.and_assoc]
theorem sameTL_part : ∀ {l m : List Ty} (k : Nat) (x y : Ty), l[k]? = some x → m[k]? = some y → sameT x y = false → sameTL l m = false
  | [], _, k, _, _, h, _, _ => by simp at h
  | _ :: _, [], k, _, _, _, h, _ => by simp at h
  | a :: r, b :: q, 0, x, y, h1, h2, h => by
    simp at h1 h2; subst h1; subst h2
    rw [sameTL, h]; rfl
  | a :: r, b :: q, k + 1, x, y, h1, h2, h => by
    rw [sameTL, sameTL_part k x y (by simpa using h1) (by simpa using h2) h, Bool.and_false]
end Go.Proofs.YtndgoefhhjcllaaGreatDoor
/- GreatType: whether a type is too large for the statements. -/
namespace Go.Proofs.YtndgoefhhjcllaaGreatDoor
open Go.RowKit

/-- what typeLeft answers for a type -/
def TlSays (e : Ty) : Prop := ∀ (cs : List Value) (nodes d : Int) (w : World), RepT (fun _ => True) w e cs → 0 ≤ nodes → nodes ≤ 4000 → 0 ≤ d → d ≤ 250 →
  Calls Tryz.prog 39 #[.agg cs.toArray, .int .i64 nodes, .int .i64 d] w fun e' w' => e' = .returned (.int .i64 (tleftP e nodes d)) ∧ Below w.heap.size w w'
set_option maxRecDepth 100000 in
set_option maxHeartbeats 4000000 in
theorem tleft_any : ∀ e, TlSays e := by
  refine Ty.ind fun e ih cs nodes d w h1 n1 n2 d1 d2 => ?_
  cases e with
  | mk k n s l ls tl =>
  have h1' := h1.tight
  obtain ⟨Al, cl, Ar, cr, rfl, hf, hls, hl⟩ := h1'
  have hPl : TParts w.heap.size w Al l := tparts_of hl
  obtain ⟨S, hS⟩ : ∃ S, S = strB s := ⟨_, rfl⟩
  have HS : Hid (S.size = s.length) := Lib.hid (by rw [hS, strB_size])
  obtain ⟨nl, hnl⟩ : ∃ q, q = l.length := ⟨_, rfl⟩
  obtain ⟨nr, hnr⟩ : ∃ q, q = ls.length := ⟨_, rfl⟩
  have hl2 : (nl : Int) ≤ 9223372036854775807 := by have := hf.hcl; unfold maxLen at this; omega
  have hr2 : (nr : Int) ≤ 9223372036854775807 := by have := hf.hcr; unfold maxLen at this; omega
  obtain ⟨R, hR⟩ : ∃ R, R = tleftP (.mk k n s l ls tl) nodes d := ⟨_, rfl⟩
  show Calls Tryz.prog 39 #[.agg #[.int .i64 k, .int .i64 n, .string (strB s), .slice Al l.length cl, .slice Ar ls.length cr, .int .i64 tl], .int .i64 nodes, .int .i64 d] w fun e' w' => e' = .returned (.int .i64 (tleftP (.mk k n s l ls tl) nodes d)) ∧ Below w.heap.size w w'
  rw [← hR, ← hS, ← hnl, ← hnr]
  rw [tleftP] at hR
  have HNl := Lib.hid hnl
  have HNr := Lib.hid hnr
  have HPl := Lib.hid hPl
  have HLs := Lib.hid hls
  have HIH := Lib.hid ih
  obtain ⟨W1, hW1⟩ : ∃ W1, w.alloc (.cells #[.int .i64 k, .int .i64 n, .string S, .slice Al nl cl, .slice Ar nr cr, .int .i64 tl] 41) = W1 := ⟨_, rfl⟩
  have HB1 : Hid (Below w.heap.size w W1) := Lib.hid (by rw [← hW1]; exact (Below.refl _ _).alloc (Nat.le_refl _) _)
  have HE1 : Hid (TyBx W1 w.heap.size (.int .i64 k) (.int .i64 n) (.string S) (.slice Al nl cl) (.slice Ar nr cr) (.int .i64 tl)) := Lib.hid (by rw [← hW1]; exact TyBx.new w _ _ _ _ _ _)
  have hzw : w.heap.size < W1.heap.size := by rw [← hW1]; simp
  obtain ⟨a0, a1, a2, a3, a4, a5⟩ := HE1.out.c
  clear h1 hf hls hl hPl ih hS
  by_cases g1 : d < 1 ∨ 100 < S.size ∨ 50 < nl ∨ 50 < nr
  · have HR : Hid (R = -1) := Lib.hid (by
      rw [hR]
      refine if_pos ?_
      rw [HS.out, HNl.out, HNr.out] at g1
      rcases g1 with h | h | h | h
      · exact .inl h
      · exact .inr (.inl h)
      · exact .inr (.inr (.inl h))
      · exact .inr (.inr (.inr (.inl h))))
    clear hR hnl hnr
    by_cases c1 : d < 1
    · have b1 : decide (d < 1) = true := decide_eq_true c1
      clear g1
      go_enter Tryz.func39, Tryz.ntmps39
      go_wp2_with fail
      go_ret
      exact ⟨by rw [HR.out]; rfl, HB1.out⟩
    have b1 : decide (d < 1) = false := decide_eq_false c1
    by_cases c2 : 100 < S.size
    · have b2 : decide ((100 : Int) < (S.size : Int)) = true := decide_eq_true (by omega)
      clear g1 c1
      go_enter Tryz.func39, Tryz.ntmps39
      go_wp2_with fail
      go_ret
      exact ⟨by rw [HR.out]; rfl, HB1.out⟩
    have b2 : decide ((100 : Int) < (S.size : Int)) = false := decide_eq_false (by omega)
    by_cases c3 : 50 < nl
    · have b3 : decide ((50 : Int) < (nl : Int)) = true := decide_eq_true (by omega)
      clear g1 c1 c2
      go_enter Tryz.func39, Tryz.ntmps39
      go_wp2_with fail
      go_ret
      exact ⟨by rw [HR.out]; rfl, HB1.out⟩
    have b3 : decide ((50 : Int) < (nl : Int)) = false := decide_eq_false (by omega)
    have b4 : decide ((50 : Int) < (nr : Int)) = true := decide_eq_true (by omega)
    clear g1 c1 c2 c3
    go_enter Tryz.func39, Tryz.ntmps39
    go_wp2_with fail
    go_ret
    exact ⟨by rw [HR.out]; rfl, HB1.out⟩
  · have b1 : decide (d < 1) = false := decide_eq_false (by omega)
    have b2 : decide ((100 : Int) < (S.size : Int)) = false := decide_eq_false (by omega)
    have b3 : decide ((50 : Int) < (nl : Int)) = false := decide_eq_false (by omega)
    have b4 : decide ((50 : Int) < (nr : Int)) = false := decide_eq_false (by omega)
    have q1 : 1 ≤ d := by omega
    have q3 : nl ≤ 50 := by omega
    have q4 : nr ≤ 50 := by omega
    have HR1 : Hid (longLs ls = true → R = -1) := Lib.hid (fun h => by rw [hR]; exact if_pos (.inr (.inr (.inr (.inr h)))))
    have HR2 : Hid (longLs ls = false → R = tleftL l (nodes - 1) (d - 1)) := Lib.hid (fun h => by
      rw [hR]
      refine if_neg ?_
      rw [HS.out, HNl.out, HNr.out] at g1
      rintro (g | g | g | g | g)
      · exact g1 (.inl g)
      · exact g1 (.inr (.inl g))
      · exact g1 (.inr (.inr (.inl g)))
      · exact g1 (.inr (.inr (.inr g)))
      · rw [h] at g; cases g)
    clear hR hnl hnr g1
    go_enter Tryz.func39, Tryz.ntmps39
    go_wp2_with fail
    clear hW1
    go_loop [7] (fun i => ∃ k : Nat, k ≤ nr ∧ i = .int .i64 (k : Int) ∧ Hid (∀ (j : Nat) (x : Txt × Int), j < k → ls[j]? = some x → x.1.length ≤ 100)) (fun i => nr - (intOf i).toNat)
    case atStart => exact ⟨0, by omega, rfl, Lib.hid (fun j x h => by omega)⟩
    case round =>
      obtain ⟨kk, hkk, rfl, HA⟩ := hrel
      by_cases hkl : kk < nr
      · have hkl' : kk < ls.length := by rw [← HNr.out]; exact hkl
        obtain ⟨x, hx⟩ : ∃ x, x = ls[kk] := ⟨_, rfl⟩
        have hxl : ls[kk]? = some x := by rw [hx]; exact List.getElem?_eq_getElem hkl'
        obtain ⟨b, off, rfl, _, hlt, hc⟩ := HLs.out (List.ne_nil_of_length_pos (by omega))
        have d1 := (Below.cell (p := ⟨b, _, none⟩) HB1.out hlt).trans (hc kk x hxl).1
        have i0 : (0 : Int) ≤ (kk : Int) := by omega
        have i1 : (kk : Int) < (nr : Int) := by omega
        obtain ⟨X, hX⟩ : ∃ X, X = strB x.1 := ⟨_, rfl⟩
        have HX : Hid (X.size = x.1.length) := Lib.hid (by rw [hX, strB_size])
        have HXl := Lib.hid hxl
        rw [← hX] at d1
        clear hc hx hxl hX hlt
        by_cases g1 : 100 < X.size
        · have g2 : (100 : Int) < (X.size : Int) := by omega
          have HRf := Lib.hid (HR1.out (by
            unfold longLs
            rw [List.any_eq_true]
            exact ⟨x, List.mem_of_getElem? HXl.out, decide_eq_true (by rw [← HX.out]; exact g1)⟩))
          go_wp2_with fail
          go_ret
          exact ⟨by rw [HRf.out]; rfl, HB1.out⟩
        · have g2 : (X.size : Int) ≤ 100 := by omega
          have HA2 : Hid (∀ (j : Nat) (x : Txt × Int), j < kk + 1 → ls[j]? = some x → x.1.length ≤ 100) := Lib.hid (fun j y hj hy => by
            by_cases e : j = kk
            · subst e
              have := Option.some.inj (hy.symm.trans HXl.out)
              rw [this, ← HX.out]; omega
            · exact HA.out j y (by omega) hy)
          clear HA
          go_wp2_with fail
          go_round
          case rel => exact ⟨kk + 1, by omega, by go_num, HA2⟩
          case measure => simp [intOf]; omega
      · obtain rfl : kk = nr := by omega
        have HR3 := Lib.hid (HR2.out (by
          unfold longLs
          rw [Bool.eq_false_iff, ne_eq, List.any_eq_true]
          rintro ⟨x, hx, h⟩
          obtain ⟨j, hj, rfl⟩ := List.getElem_of_mem hx
          have h1 := HA.out j _ (by rw [HNr.out]; exact hj) (List.getElem?_eq_getElem hj)
          have h2 := of_decide_eq_true h
          omega))
        clear HA HR1 HR2
        go_wp2_with fail
        go_loopw [1, 8] (fun v i wr => ∃ (j : Nat) (N : Int), j ≤ nl ∧ -1 ≤ N ∧ N ≤ 3999 ∧ i = .int .i64 (j : Int) ∧ v = .int .i64 N ∧ Hid (N = tleftL (l.take j) (nodes - 1) (d - 1)) ∧ Hid (Below W1.heap.size W1 wr)) (fun v i _ => nl - (intOf i).toNat)
        case atStart => exact ⟨0, nodes - 1, by omega, by omega, by omega, rfl, rfl, Lib.hid (by rw [List.take_zero, tleftL]), Lib.hid (Below.refl _ _)⟩
        case round =>
          clear a0 a1 a2 a3 a4 a5
          obtain ⟨j, N, hj, hN1, hN2, rfl, rfl, HNJ, HBw⟩ := hrel
          have HB := Lib.hid (HB1.out.trans (HBw.out.mono HB1.out.size))
          have HEr : Hid (TyBx wr w.heap.size (.int .i64 k) (.int .i64 n) (.string S) (.slice Al nl cl) (.slice Ar kk cr) (.int .i64 tl)) := Lib.hid (HE1.out.kept (grown_below HBw.out none) (by simp))
          obtain ⟨a0, a1, a2, a3, a4, a5⟩ := HEr.out.c
          have i0 : (0 : Int) ≤ (j : Int) := by omega
          by_cases hjl : j < nl
          · have i1 : (j : Int) < (nl : Int) := by omega
            have g1 : decide (j < nl) = true := decide_eq_true hjl
            by_cases h0 : 0 ≤ N
            · have g2 : decide (0 ≤ N) = true := decide_eq_true h0
              have hjl' : j < l.length := by rw [← HNl.out]; exact hjl
              obtain ⟨x, hx⟩ : ∃ x, x = l[j] := ⟨_, rfl⟩
              have hxl : l[j]? = some x := by rw [hx]; exact List.getElem?_eq_getElem hjl'
              obtain ⟨b, off, rfl⟩ := HPl.out.addr (by omega)
              obtain ⟨hbx, k1, m1, s1, X0, p0, c0, X1, p1, c1, t1, hcx⟩ := HPl.out.at hxl
              obtain ⟨f0, f1, f2, f3, f4, f5⟩ := hcx.up hbx HB.out
              have hle := tleftP_le x N (d - 1) h0
              obtain ⟨N', hN'⟩ : ∃ N', N' = tleftP x N (d - 1) := ⟨_, rfl⟩
              have HNN : Hid (N' = tleftL (l.take (j + 1)) (nodes - 1) (d - 1)) := Lib.hid (by rw [hN']; exact tleftL_step HNJ.out h0 hxl)
              have HI : Hid (Calls Tryz.prog 39 #[.agg #[.int .i64 k1, .int .i64 m1, .string s1, .slice X0 p0 c0, .slice X1 p1 c1, .int .i64 t1], .int .i64 N, .int .i64 (d - 1)] wr fun e' w' => e' = .returned (.int .i64 N') ∧ Below wr.heap.size wr w') := Lib.hid (by
                rw [hN']
                exact HIH.out x (List.mem_of_getElem? hxl) _ N (d - 1) wr ((hcx.rep.weaken (Q := fun _ => True) (fun _ _ => trivial)).keep (Same.of_below HB.out)) h0 (by omega) (by omega) (by omega))
              rw [← hN'] at hle
              obtain ⟨hle1, hle2⟩ := hle
              clear hx hxl hcx hN' hbx
              go_wp2_with fail
              refine HI.out.mono ?_
              rintro e w' ⟨rfl, hb⟩
              have HB2 := Lib.hid (HBw.out.trans (hb.mono HBw.out.size))
              clear hb
              go_wp2_with fail
              go_roundw
              case rel => exact ⟨j + 1, N', by omega, by omega, by omega, by go_num, rfl, HNN, HB2⟩
              case measure => simp [intOf]; omega
            · have g2 : decide (0 ≤ N) = false := decide_eq_false h0
              have HRn : Hid (R = N) := Lib.hid (by rw [HR3.out]; exact (tleftL_end HNJ.out (.inl (by omega))).symm)
              go_wp2_with fail
              go_ret
              exact ⟨by rw [HRn.out]; rfl, HB.out⟩
          · have g1 : decide (j < nl) = false := decide_eq_false hjl
            have HRn : Hid (R = N) := Lib.hid (by rw [HR3.out]; exact (tleftL_end HNJ.out (.inr (by rw [← HNl.out]; omega))).symm)
            go_wp2_with fail
            go_ret
            exact ⟨by rw [HRn.out]; rfl, HB.out⟩
set_option maxRecDepth 100000 in
set_option maxHeartbeats 1000000 in
theorem GreatType_any (e : Ty) (v0 v1 v2 v3 v4 v5 : Value) (w : World) (h : RepT (fun _ => True) w e [v0, v1, v2, v3, v4, v5]) :
    Calls Tryz.prog 18 #[.agg #[v0, v1, v2, v3, v4, v5]] w fun r w' => r = .returned (.bool (greatT e)) ∧ Below w.heap.size w w' := by
  have HT := Lib.hid (fun w' (hb : Below w.heap.size w w') => tleft_any e _ 4000 250 w' (h.keep (Same.of_below hb)) (by omega) (by omega) (by omega) (by omega))
  obtain ⟨k, n, s, A0, n0, c0, A1, n1, c1, tl, hsh⟩ := h.shape
  simp only [List.cons.injEq, and_true] at hsh
  obtain ⟨rfl, rfl, rfl, rfl, rfl, rfl⟩ := hsh
  obtain ⟨M, hM⟩ : ∃ M, M = tleftP e 4000 250 := ⟨_, rfl⟩
  obtain ⟨R, hR⟩ : ∃ R, R = greatT e := ⟨_, rfl⟩
  have HR : Hid (R = decide (M < 0)) := Lib.hid (by rw [hR, hM]; rfl)
  rw [← hM] at HT
  rw [← hR]
  have HB0 : Hid (Below w.heap.size w (w.alloc (.cells #[.int .i64 k, .int .i64 n, .string s, .slice A0 n0 c0, .slice A1 n1 c1, .int .i64 tl] 41))) := Lib.hid ((Below.refl _ _).alloc (Nat.le_refl _) _)
  clear hM hR h
  go_enter Tryz.func18, Tryz.ntmps18
  go_wp2_with fail
  refine (HT.out _ HB0.out).mono ?_
  rintro r w2 ⟨rfl, hb⟩
  have HB2 := Lib.hid (HB0.out.trans (hb.mono HB0.out.size))
  clear hb
  go_wp2_with fail
  go_ret
  exact ⟨by rw [HR.out]; rfl, HB2.out⟩
end Go.Proofs.YtndgoefhhjcllaaGreatDoor
/- Rows, compared: the reference's SameRow; slices.Equal of labels. -/
namespace Go.Proofs.YtndgoefhhjcllaaGreatDoor
open Go.RowKit

set_option maxRecDepth 100000 in
set_option maxHeartbeats 4000000 in
theorem sameRow_any (P Q : Nat → Prop) (A B : Option Addr) (c d : Nat) (L M : List (Txt × Int)) (tl tl' : Int) (w : World) (hL : LabsAt P w A L) (hM : LabsAt Q w B M) (hl : L.length ≤ maxLen ∧ M.length ≤ maxLen) :
    Calls Tryz.prog 52 #[.agg #[.slice A L.length c, .int .i64 tl], .agg #[.slice B M.length d, .int .i64 tl']] w fun e w' => e = .returned (.bool (decide (tl = tl') && decide (L = M))) ∧ Below w.heap.size w w' := by
  obtain ⟨n, hn⟩ : ∃ n, n = L.length := ⟨_, rfl⟩
  obtain ⟨m, hm⟩ : ∃ n, n = M.length := ⟨_, rfl⟩
  have hl1 : (n : Int) ≤ 9223372036854775807 := by have := hl.1; unfold maxLen at this; omega
  have HL := Lib.hid hL
  have HM := Lib.hid hM
  have HN := Lib.hid hn
  have HNm := Lib.hid hm
  obtain ⟨r, hr⟩ : ∃ r, r = (decide (tl = tl') && decide (L = M)) := ⟨_, rfl⟩
  rw [← hr, ← hn, ← hm]
  clear hL hM hn hm hl
  obtain ⟨W2, hW2⟩ : ∃ W, (w.alloc (.cells #[.slice A n c, .int .i64 tl] 39)).alloc (.cells #[.slice B m d, .int .i64 tl'] 39) = W := ⟨_, rfl⟩
  have HB2 : Hid (Below w.heap.size w W2) := Lib.hid (by rw [← hW2]; exact ((Below.refl _ _).alloc (Nat.le_refl _) _).alloc (by simp) _)
  have hx : W2.heap[w.heap.size]? = some (.cells #[.slice A n c, .int .i64 tl] 39 (0, 0)) := by rw [← hW2]; exact (Lib.alloc_old _ _ _ (by simp)).trans (heap_alloc_new w _)
  have hy : W2.heap[w.heap.size + 1]? = some (.cells #[.slice B m d, .int .i64 tl'] 39 (0, 0)) := by rw [← hW2]; have := heap_alloc_new (w.alloc (.cells #[.slice A n c, .int .i64 tl] 39)) (.cells #[.slice B m d, .int .i64 tl'] 39); rwa [World.size_alloc] at this
  have HX := Lib.hid hx
  have HY := Lib.hid hy
  have a0 := cell_of_row W2 w.heap.size 0 _ _ (0, 0) hx
  have a1 := cell_of_row W2 w.heap.size 1 _ _ (0, 0) hx
  have b0 := cell_of_row W2 (w.heap.size + 1) 0 _ _ (0, 0) hy
  have b1 := cell_of_row W2 (w.heap.size + 1) 1 _ _ (0, 0) hy
  simp only [List.getElem?_toArray, List.getElem?_cons_zero, List.getElem?_cons_succ] at a0 a1 b0 b1
  have hzw : w.heap.size + 1 < W2.heap.size := by rw [← hW2]; simp
  clear hx hy
  by_cases e1 : tl = tl'
  case neg =>
    have HR : Hid (r = false) := Lib.hid (by rw [hr, decide_eq_false e1]; rfl)
    have f1 : (tl != tl') = true := by simpa using e1
    clear hr e1
    go_enter Tryz.func52, Tryz.ntmps52
    go_wp2_with fail
    go_ret
    exact ⟨by rw [HR.out]; rfl, HB2.out⟩
  subst e1
  by_cases hnm : n = m
  case neg =>
    have HR : Hid (r = false) := Lib.hid (by rw [hr, decide_eq_false (p := L = M) (fun h => hnm (by rw [HN.out, HNm.out, h]))]; simp)
    have h1 : ((n : Int) != (m : Int)) = true := by simp; omega
    have h2 : ((n : Int) == (m : Int)) = false := by simp; omega
    clear hr hnm
    go_enter Tryz.func52, Tryz.ntmps52
    go_wp2_with fail
    go_ret
    exact ⟨by rw [HR.out]; rfl, HB2.out⟩
  subst hnm
  have h1 : ((n : Int) != (n : Int)) = false := by simp
  have HR : Hid (r = decide (L = M)) := Lib.hid (by rw [hr]; simp)
  clear hr
  go_enter Tryz.func52, Tryz.ntmps52
  go_wp2_with fail
  clear hW2
  go_loopw [5] (fun i wr => ∃ k : Nat, k ≤ n ∧ i = .int .i64 (k : Int) ∧ Hid (Below W2.heap.size W2 wr) ∧ Hid (L.take k = M.take k)) (fun i _ => n - (intOf i).toNat)
  case atStart => exact ⟨0, Nat.zero_le _, rfl, Lib.hid (Below.refl _ _), Lib.hid rfl⟩
  case round =>
    obtain ⟨k, hk, rfl, hB, hE⟩ := hrel
    have i0 : (0 : Int) ≤ (k : Int) := by omega
    clear a0 a1 b0 b1
    have HB0 := Lib.hid (HB2.out.trans (hB.out.mono HB2.out.size))
    have hx := (hB.out.block _ (by omega)).trans HX.out
    have hy := (hB.out.block _ hzw).trans HY.out
    have hzr : w.heap.size + 1 < wr.heap.size := Nat.lt_of_lt_of_le hzw hB.out.size
    have a0 := cell_of_row wr w.heap.size 0 _ _ (0, 0) hx
    have b0 := cell_of_row wr (w.heap.size + 1) 0 _ _ (0, 0) hy
    simp only [List.getElem?_toArray, List.getElem?_cons_zero] at a0 b0
    clear hx hy
    by_cases hkn : k < n
    case pos =>
      have hk1 : k < L.length := by rw [← HN.out]; exact hkn
      have hk2 : k < M.length := by rw [← HNm.out]; exact hkn
      have i1 : (k : Int) < (n : Int) := by omega
      obtain ⟨x, hx⟩ : ∃ x, x = L[k] := ⟨_, rfl⟩
      obtain ⟨y, hy⟩ : ∃ x, x = M[k] := ⟨_, rfl⟩
      have hxl : L[k]? = some x := by rw [hx]; exact List.getElem?_eq_getElem hk1
      have hyl : M[k]? = some y := by rw [hy]; exact List.getElem?_eq_getElem hk2
      obtain ⟨b, off, rfl, _, hlt, hc⟩ := HL.out (List.ne_nil_of_length_pos (by omega))
      obtain ⟨b', off', rfl, _, hlt2, hc2⟩ := HM.out (List.ne_nil_of_length_pos (by omega))
      have d1 := (Below.cell (p := ⟨b, _, none⟩) HB0.out hlt).trans (hc k x hxl).1
      have d2 := (Below.cell (p := ⟨b, _, none⟩) HB0.out hlt).trans (hc k x hxl).2
      have e1 := (Below.cell (p := ⟨b', _, none⟩) HB0.out hlt2).trans (hc2 k y hyl).1
      have e2 := (Below.cell (p := ⟨b', _, none⟩) HB0.out hlt2).trans (hc2 k y hyl).2
      obtain ⟨X, hX⟩ : ∃ X, X = strB x.1 := ⟨_, rfl⟩
      obtain ⟨Y, hY⟩ : ∃ X, X = strB y.1 := ⟨_, rfl⟩
      obtain ⟨N, hNx⟩ : ∃ X, X = x.2 := ⟨_, rfl⟩
      obtain ⟨Mv, hMy⟩ : ∃ X, X = y.2 := ⟨_, rfl⟩
      rw [← hX] at d1
      rw [← hNx] at d2
      rw [← hY] at e1
      rw [← hMy] at e2
      have HRf : Hid (x ≠ y → r = false) := Lib.hid (fun h => by rw [HR.out]; refine decide_eq_false (fun h2 => h ?_); subst h2; exact Option.some.inj (hxl.symm.trans hyl))
      have HEq : Hid (x = y → L.take (k + 1) = M.take (k + 1)) := Lib.hid (fun h => by rw [take_succ_of hk1, take_succ_of hk2, hE.out, ← hx, ← hy, h])
      have HB0' := Lib.hid HB0.out
      clear hc hc2 hx hy hxl hyl hlt hlt2
      by_cases q1 : x.1 = y.1
      case neg =>
        have HRn := Lib.hid (HRf.out (fun h => q1 (by rw [h])))
        have q9 : ¬ X.toList = Y.toList := by rw [hX, hY, ByteArray.toList_eq, ByteArray.toList_eq, data_strB, data_strB]; exact q1
        have q8 : (X.toList == Y.toList) = false := beq_eq_false_iff_ne.2 q9
        clear q1 hX hY hNx hMy
        go_wp2_with fail
        go_region_held3 (fun w' => w'.cell? ⟨w.heap.size, 0, none⟩ = some (.slice (some ⟨b, off, none⟩) n c) ∧ w'.cell? ⟨w.heap.size + 1, 0, none⟩ = some (.slice (some ⟨b', off', none⟩) n d) ∧ w'.cell? ⟨b, off + k * 2, none⟩ = some (.string X) ∧ w'.cell? ⟨b, off + k * 2 + 1, none⟩ = some (.int .i64 N) ∧ w'.cell? ⟨b', off' + k * 2, none⟩ = some (.string Y) ∧ w'.cell? ⟨b', off' + k * 2 + 1, none⟩ = some (.int .i64 Mv) ∧ Below W2.heap.size W2 w')
          ((exact ⟨a0, b0, d1, d2, e1, e2, hB.out.drew⟩))
          (fail)
        rename_i hh
        have HBn := Lib.hid hh.2.2.2.2.2.2
        clear hh d1 d2 e1 e2 a0 b0
        go_wp2_with fail
        go_ret
        exact ⟨by rw [HRn.out]; rfl, HB2.out.trans (HBn.out.mono HB2.out.size)⟩
      obtain rfl : Y = X := by rw [hX, hY, q1]
      by_cases q2 : x.2 = y.2
      case neg =>
        have HRn := Lib.hid (HRf.out (fun h => q2 (by rw [h])))
        have q9 : ¬ N = Mv := by rw [hNx, hMy]; exact q2
        have q8 : (N == Mv) = false := beq_eq_false_iff_ne.2 q9
        clear q1 q2 hX hY hNx hMy
        go_wp2_with fail
        go_region_held3 (fun w' => w'.cell? ⟨w.heap.size, 0, none⟩ = some (.slice (some ⟨b, off, none⟩) n c) ∧ w'.cell? ⟨w.heap.size + 1, 0, none⟩ = some (.slice (some ⟨b', off', none⟩) n d) ∧ w'.cell? ⟨b, off + k * 2, none⟩ = some (.string Y) ∧ w'.cell? ⟨b, off + k * 2 + 1, none⟩ = some (.int .i64 N) ∧ w'.cell? ⟨b', off' + k * 2, none⟩ = some (.string Y) ∧ w'.cell? ⟨b', off' + k * 2 + 1, none⟩ = some (.int .i64 Mv) ∧ Below W2.heap.size W2 w')
          ((exact ⟨a0, b0, d1, d2, e1, e2, hB.out.drew⟩))
          (fail)
        rename_i hh
        have HBn := Lib.hid hh.2.2.2.2.2.2
        clear hh d1 d2 e1 e2 a0 b0
        go_wp2_with fail
        go_ret
        exact ⟨by rw [HRn.out]; rfl, HB2.out.trans (HBn.out.mono HB2.out.size)⟩
      obtain rfl : Mv = N := by rw [hNx, hMy, q2]
      have HEn := Lib.hid (HEq.out (Prod.ext q1 q2))
      clear q1 q2 hX hY hNx hMy
      go_wp2_with fail
      go_region_held3 (fun w' => w'.cell? ⟨w.heap.size, 0, none⟩ = some (.slice (some ⟨b, off, none⟩) n c) ∧ w'.cell? ⟨w.heap.size + 1, 0, none⟩ = some (.slice (some ⟨b', off', none⟩) n d) ∧ w'.cell? ⟨b, off + k * 2, none⟩ = some (.string Y) ∧ w'.cell? ⟨b, off + k * 2 + 1, none⟩ = some (.int .i64 Mv) ∧ w'.cell? ⟨b', off' + k * 2, none⟩ = some (.string Y) ∧ w'.cell? ⟨b', off' + k * 2 + 1, none⟩ = some (.int .i64 Mv) ∧ Below W2.heap.size W2 w')
        ((exact ⟨a0, b0, d1, d2, e1, e2, hB.out.drew⟩))
        (fail)
      rename_i hh
      have HBn := Lib.hid hh.2.2.2.2.2.2
      clear hh d1 d2 e1 e2 a0 b0
      go_wp2_with fail
      go_roundw
      case rel => exact ⟨k + 1, by omega, by go_num, HBn, HEn⟩
      case measure => simp [intOf]; omega
    case neg =>
      obtain rfl : k = n := by omega
      have HRt : Hid (r = true) := Lib.hid (by
        rw [HR.out]
        refine decide_eq_true ?_
        have h := hE.out
        rw [List.take_of_length_le (by rw [← HN.out]; exact Nat.le_refl _), List.take_of_length_le (by rw [← HNm.out]; exact Nat.le_refl _)] at h
        exact h)
      go_wp2_with fail
      go_ret
      exact ⟨by rw [HRt.out]; rfl, HB0.out⟩
set_option maxRecDepth 100000 in
set_option maxHeartbeats 4000000 in
theorem eqLabs_any (P Q : Nat → Prop) (A B : Option Addr) (c d : Nat) (L M : List (Txt × Int)) (w : World) (hL : LabsAt P w A L) (hM : LabsAt Q w B M) (hl : L.length ≤ maxLen ∧ M.length ≤ maxLen) :
    Calls Tryz.prog 114 #[.slice A L.length c, .slice B M.length d] w fun e w' => e = .returned (.bool (decide (L = M))) ∧ Below w.heap.size w w' := by
  obtain ⟨n, hn⟩ : ∃ n, n = L.length := ⟨_, rfl⟩
  obtain ⟨m, hm⟩ : ∃ n, n = M.length := ⟨_, rfl⟩
  have hl1 : (n : Int) ≤ 9223372036854775807 := by have := hl.1; unfold maxLen at this; omega
  have HL := Lib.hid hL
  have HM := Lib.hid hM
  have HN := Lib.hid hn
  have HNm := Lib.hid hm
  obtain ⟨r, hr⟩ : ∃ r, r = (decide (L = M)) := ⟨_, rfl⟩
  rw [← hr, ← hn, ← hm]
  clear hL hM hn hm hl
  by_cases hnm : n = m
  case neg =>
    have HR : Hid (r = false) := Lib.hid (by rw [hr, decide_eq_false (p := L = M) (fun h => hnm (by rw [HN.out, HNm.out, h]))])
    have h1 : ((n : Int) != (m : Int)) = true := by simp; omega
    have h2 : ((n : Int) == (m : Int)) = false := by simp; omega
    clear hr hnm
    go_enter Tryz.func114, Tryz.ntmps114
    go_wp2_with fail
    go_ret
    exact ⟨by rw [HR.out]; rfl, Below.refl _ _⟩
  subst hnm
  have h1 : ((n : Int) != (n : Int)) = false := by simp
  have HR : Hid (r = decide (L = M)) := Lib.hid (by rw [hr])
  clear hr
  go_enter Tryz.func114, Tryz.ntmps114
  go_wp2_with fail
  go_loopw [13] (fun i wr => ∃ k : Nat, k ≤ n ∧ i = .int .i64 (k : Int) ∧ Hid (Below w.heap.size w wr) ∧ Hid (L.take k = M.take k)) (fun i _ => n - (intOf i).toNat)
  case atStart => exact ⟨0, Nat.zero_le _, rfl, Lib.hid (Below.refl _ _), Lib.hid rfl⟩
  case round =>
    obtain ⟨k, hk, rfl, hB, hE⟩ := hrel
    have i0 : (0 : Int) ≤ (k : Int) := by omega
    have HB0 := hB
    by_cases hkn : k < n
    case pos =>
      have hk1 : k < L.length := by rw [← HN.out]; exact hkn
      have hk2 : k < M.length := by rw [← HNm.out]; exact hkn
      have i1 : (k : Int) < (n : Int) := by omega
      obtain ⟨x, hx⟩ : ∃ x, x = L[k] := ⟨_, rfl⟩
      obtain ⟨y, hy⟩ : ∃ x, x = M[k] := ⟨_, rfl⟩
      have hxl : L[k]? = some x := by rw [hx]; exact List.getElem?_eq_getElem hk1
      have hyl : M[k]? = some y := by rw [hy]; exact List.getElem?_eq_getElem hk2
      obtain ⟨b, off, rfl, _, hlt, hc⟩ := HL.out (List.ne_nil_of_length_pos (by omega))
      obtain ⟨b', off', rfl, _, hlt2, hc2⟩ := HM.out (List.ne_nil_of_length_pos (by omega))
      have d1 := (Below.cell (p := ⟨b, _, none⟩) HB0.out hlt).trans (hc k x hxl).1
      have d2 := (Below.cell (p := ⟨b, _, none⟩) HB0.out hlt).trans (hc k x hxl).2
      have e1 := (Below.cell (p := ⟨b', _, none⟩) HB0.out hlt2).trans (hc2 k y hyl).1
      have e2 := (Below.cell (p := ⟨b', _, none⟩) HB0.out hlt2).trans (hc2 k y hyl).2
      obtain ⟨X, hX⟩ : ∃ X, X = strB x.1 := ⟨_, rfl⟩
      obtain ⟨Y, hY⟩ : ∃ X, X = strB y.1 := ⟨_, rfl⟩
      obtain ⟨N, hNx⟩ : ∃ X, X = x.2 := ⟨_, rfl⟩
      obtain ⟨Mv, hMy⟩ : ∃ X, X = y.2 := ⟨_, rfl⟩
      rw [← hX] at d1
      rw [← hNx] at d2
      rw [← hY] at e1
      rw [← hMy] at e2
      have HRf : Hid (x ≠ y → r = false) := Lib.hid (fun h => by rw [HR.out]; refine decide_eq_false (fun h2 => h ?_); subst h2; exact Option.some.inj (hxl.symm.trans hyl))
      have HEq : Hid (x = y → L.take (k + 1) = M.take (k + 1)) := Lib.hid (fun h => by rw [take_succ_of hk1, take_succ_of hk2, hE.out, ← hx, ← hy, h])
      have HB0' := Lib.hid HB0.out
      clear hc hc2 hx hy hxl hyl hlt hlt2
      by_cases q1 : x.1 = y.1
      case neg =>
        have HRn := Lib.hid (HRf.out (fun h => q1 (by rw [h])))
        have q9 : ¬ X.toList = Y.toList := by rw [hX, hY, ByteArray.toList_eq, ByteArray.toList_eq, data_strB, data_strB]; exact q1
        have q8 : (X.toList == Y.toList) = false := beq_eq_false_iff_ne.2 q9
        clear q1 hX hY hNx hMy
        go_wp2_with fail
        go_region_held3 (fun w' => w'.cell? ⟨b, off + k * 2, none⟩ = some (.string X) ∧ w'.cell? ⟨b, off + k * 2 + 1, none⟩ = some (.int .i64 N) ∧ w'.cell? ⟨b', off' + k * 2, none⟩ = some (.string Y) ∧ w'.cell? ⟨b', off' + k * 2 + 1, none⟩ = some (.int .i64 Mv) ∧ Below w.heap.size w w')
          ((exact ⟨d1, d2, e1, e2, hB.out.drew⟩))
          (fail)
        rename_i hh
        have HBn := Lib.hid hh.2.2.2.2
        clear hh d1 d2 e1 e2
        go_wp2_with fail
        go_ret
        exact ⟨by rw [HRn.out]; rfl, HBn.out⟩
      obtain rfl : Y = X := by rw [hX, hY, q1]
      by_cases q2 : x.2 = y.2
      case neg =>
        have HRn := Lib.hid (HRf.out (fun h => q2 (by rw [h])))
        have q9 : ¬ N = Mv := by rw [hNx, hMy]; exact q2
        have q8 : (N == Mv) = false := beq_eq_false_iff_ne.2 q9
        clear q1 q2 hX hY hNx hMy
        go_wp2_with fail
        go_region_held3 (fun w' => w'.cell? ⟨b, off + k * 2, none⟩ = some (.string Y) ∧ w'.cell? ⟨b, off + k * 2 + 1, none⟩ = some (.int .i64 N) ∧ w'.cell? ⟨b', off' + k * 2, none⟩ = some (.string Y) ∧ w'.cell? ⟨b', off' + k * 2 + 1, none⟩ = some (.int .i64 Mv) ∧ Below w.heap.size w w')
          ((exact ⟨d1, d2, e1, e2, hB.out.drew⟩))
          (fail)
        rename_i hh
        have HBn := Lib.hid hh.2.2.2.2
        clear hh d1 d2 e1 e2
        go_wp2_with fail
        go_ret
        exact ⟨by rw [HRn.out]; rfl, HBn.out⟩
      obtain rfl : Mv = N := by rw [hNx, hMy, q2]
      have HEn := Lib.hid (HEq.out (Prod.ext q1 q2))
      clear q1 q2 hX hY hNx hMy
      go_wp2_with fail
      go_region_held3 (fun w' => w'.cell? ⟨b, off + k * 2, none⟩ = some (.string Y) ∧ w'.cell? ⟨b, off + k * 2 + 1, none⟩ = some (.int .i64 Mv) ∧ w'.cell? ⟨b', off' + k * 2, none⟩ = some (.string Y) ∧ w'.cell? ⟨b', off' + k * 2 + 1, none⟩ = some (.int .i64 Mv) ∧ Below w.heap.size w w')
        ((exact ⟨d1, d2, e1, e2, hB.out.drew⟩))
        (fail)
      rename_i hh
      have HBn := Lib.hid hh.2.2.2.2
      clear hh d1 d2 e1 e2
      go_wp2_with fail
      go_roundw
      case rel => exact ⟨k + 1, by omega, by go_num, HBn, HEn⟩
      case measure => simp [intOf]; omega
    case neg =>
      obtain rfl : k = n := by omega
      have HRt : Hid (r = true) := Lib.hid (by
        rw [HR.out]
        refine decide_eq_true ?_
        have h := hE.out
        rw [List.take_of_length_le (by rw [← HN.out]; exact Nat.le_refl _), List.take_of_length_le (by rw [← HNm.out]; exact Nat.le_refl _)] at h
        exact h)
      go_wp2_with fail
      go_ret
      exact ⟨by rw [HRt.out]; rfl, hB.out⟩
end Go.Proofs.YtndgoefhhjcllaaGreatDoor
/- The reference's level of an expression. -/
namespace Go.Proofs.YtndgoefhhjcllaaGreatDoor
open Go.RowKit

set_option maxRecDepth 100000 in
set_option maxHeartbeats 4000000 in
theorem rLevel_any (k : Int) (v1 : Value) (s : Txt) (v3 v4 v5 v6 : Value) (w : World) (ho : k = 9 → (opLv s).isSome = true) :
    Calls Tryz.prog 135 #[.agg #[.int .i64 k, v1, .string (strB s), v3, v4, v5, v6]] w fun e w' => e = .returned (.int .i64 (lvO k s)) ∧ Below w.heap.size w w' := by
  obtain ⟨r, hr⟩ : ∃ r, r = lvO k s := ⟨_, rfl⟩
  rw [← hr]
  by_cases h9 : k = 9
  · have hs := ho h9
    subst h9
    have hr2 : r = (opLv s).getD 0 := by rw [hr]; unfold lvO; rw [if_pos rfl]
    clear hr ho
    obtain ⟨S, hS⟩ : ∃ S, S = strB s := ⟨_, rfl⟩
    have f : ∀ x : Txt, (S.toList == x) = (s == x) := fun x => by rw [hS, ByteArray.toList_eq, data_strB]
    rw [← hS]
    clear hS
    by_cases c1 : s = [42]
    · have HR : Hid (r = 3) := Lib.hid (by rw [hr2, c1]; rfl)
      have f1 : (S.toList == [42]) = true := by rw [f, c1]; rfl
      clear f hr2 hs c1
      go_enter Tryz.func135, Tryz.ntmps135
      go_wp2_with fail
      go_ret
      exact ⟨by rw [HR.out]; rfl, (Below.refl _ _).alloc (Nat.le_refl _) _⟩
    · have f1 : (S.toList == [42]) = false := by rw [f]; exact beq_eq_false_iff_ne.2 c1
      by_cases c2 : s = [43]
      · have HR : Hid (r = 2) := Lib.hid (by rw [hr2, c2]; rfl)
        have f2 : (S.toList == [43]) = true := by rw [f, c2]; rfl
        clear f hr2 hs c1 c2
        go_enter Tryz.func135, Tryz.ntmps135
        go_wp2_with fail
        go_ret
        exact ⟨by rw [HR.out]; rfl, (Below.refl _ _).alloc (Nat.le_refl _) _⟩
      · have f2 : (S.toList == [43]) = false := by rw [f]; exact beq_eq_false_iff_ne.2 c2
        by_cases c3 : s = [45]
        · have HR : Hid (r = 2) := Lib.hid (by rw [hr2, c3]; rfl)
          have f3 : (S.toList == [45]) = true := by rw [f, c3]; rfl
          clear f hr2 hs c1 c2 c3
          go_enter Tryz.func135, Tryz.ntmps135
          go_wp2_with fail
          go_ret
          exact ⟨by rw [HR.out]; rfl, (Below.refl _ _).alloc (Nat.le_refl _) _⟩
        · have f3 : (S.toList == [45]) = false := by rw [f]; exact beq_eq_false_iff_ne.2 c3
          have HR : Hid (r = 1) := Lib.hid (by
            rw [hr2]
            unfold opLv at hs ⊢
            rw [if_neg c1, if_neg (by simp [c2, c3])] at hs ⊢
            split
            · rfl
            · rename_i h; rw [if_neg h] at hs; cases hs)
          clear f hr2 hs c1 c2 c3
          go_enter Tryz.func135, Tryz.ntmps135
          go_wp2_with fail
          go_ret
          exact ⟨by rw [HR.out]; rfl, (Below.refl _ _).alloc (Nat.le_refl _) _⟩
  · have b9 : (k == 9) = false := beq_eq_false_iff_ne.2 h9
    clear ho
    by_cases h4 : k = 4
    · have HR : Hid (r = 0) := Lib.hid (by rw [hr, h4]; rfl)
      clear hr
      subst h4
      go_enter Tryz.func135, Tryz.ntmps135
      go_wp2_with fail
      go_ret
      exact ⟨by rw [HR.out]; rfl, (Below.refl _ _).alloc (Nat.le_refl _) _⟩
    have b4 : (k == 4) = false := beq_eq_false_iff_ne.2 h4
    by_cases h6 : k = 6
    · have HR : Hid (r = 0) := Lib.hid (by rw [hr, h6]; rfl)
      clear hr
      subst h6
      go_enter Tryz.func135, Tryz.ntmps135
      go_wp2_with fail
      go_ret
      exact ⟨by rw [HR.out]; rfl, (Below.refl _ _).alloc (Nat.le_refl _) _⟩
    have b6 : (k == 6) = false := beq_eq_false_iff_ne.2 h6
    by_cases h7 : k = 7
    · have HR : Hid (r = 0) := Lib.hid (by rw [hr, h7]; rfl)
      clear hr
      subst h7
      go_enter Tryz.func135, Tryz.ntmps135
      go_wp2_with fail
      go_ret
      exact ⟨by rw [HR.out]; rfl, (Below.refl _ _).alloc (Nat.le_refl _) _⟩
    have b7 : (k == 7) = false := beq_eq_false_iff_ne.2 h7
    by_cases h8 : k = 8
    · have HR : Hid (r = 0) := Lib.hid (by rw [hr, h8]; rfl)
      clear hr
      subst h8
      go_enter Tryz.func135, Tryz.ntmps135
      go_wp2_with fail
      go_ret
      exact ⟨by rw [HR.out]; rfl, (Below.refl _ _).alloc (Nat.le_refl _) _⟩
    have b8 : (k == 8) = false := beq_eq_false_iff_ne.2 h8
    by_cases h17 : k = 17
    · have HR : Hid (r = 0) := Lib.hid (by rw [hr, h17]; rfl)
      clear hr
      subst h17
      go_enter Tryz.func135, Tryz.ntmps135
      go_wp2_with fail
      go_ret
      exact ⟨by rw [HR.out]; rfl, (Below.refl _ _).alloc (Nat.le_refl _) _⟩
    have b17 : (k == 17) = false := beq_eq_false_iff_ne.2 h17
    by_cases h5 : k = 5
    · have HR : Hid (r = 4) := Lib.hid (by rw [hr, h5]; rfl)
      clear hr
      subst h5
      go_enter Tryz.func135, Tryz.ntmps135
      go_wp2_with fail
      go_ret
      exact ⟨by rw [HR.out]; rfl, (Below.refl _ _).alloc (Nat.le_refl _) _⟩
    have b5 : (k == 5) = false := beq_eq_false_iff_ne.2 h5
    by_cases h12 : k = 12
    · have HR : Hid (r = 4) := Lib.hid (by rw [hr, h12]; rfl)
      clear hr
      subst h12
      go_enter Tryz.func135, Tryz.ntmps135
      go_wp2_with fail
      go_ret
      exact ⟨by rw [HR.out]; rfl, (Below.refl _ _).alloc (Nat.le_refl _) _⟩
    have b12 : (k == 12) = false := beq_eq_false_iff_ne.2 h12
    by_cases h13 : k = 13
    · have HR : Hid (r = 4) := Lib.hid (by rw [hr, h13]; rfl)
      clear hr
      subst h13
      go_enter Tryz.func135, Tryz.ntmps135
      go_wp2_with fail
      go_ret
      exact ⟨by rw [HR.out]; rfl, (Below.refl _ _).alloc (Nat.le_refl _) _⟩
    have b13 : (k == 13) = false := beq_eq_false_iff_ne.2 h13
    by_cases h16 : k = 16
    · have HR : Hid (r = 4) := Lib.hid (by rw [hr, h16]; rfl)
      clear hr
      subst h16
      go_enter Tryz.func135, Tryz.ntmps135
      go_wp2_with fail
      go_ret
      exact ⟨by rw [HR.out]; rfl, (Below.refl _ _).alloc (Nat.le_refl _) _⟩
    have b16 : (k == 16) = false := beq_eq_false_iff_ne.2 h16
    by_cases h18 : k = 18
    · have HR : Hid (r = 4) := Lib.hid (by rw [hr, h18]; rfl)
      clear hr
      subst h18
      go_enter Tryz.func135, Tryz.ntmps135
      go_wp2_with fail
      go_ret
      exact ⟨by rw [HR.out]; rfl, (Below.refl _ _).alloc (Nat.le_refl _) _⟩
    have b18 : (k == 18) = false := beq_eq_false_iff_ne.2 h18
    by_cases h19 : k = 19
    · have HR : Hid (r = 4) := Lib.hid (by rw [hr, h19]; rfl)
      clear hr
      subst h19
      go_enter Tryz.func135, Tryz.ntmps135
      go_wp2_with fail
      go_ret
      exact ⟨by rw [HR.out]; rfl, (Below.refl _ _).alloc (Nat.le_refl _) _⟩
    have b19 : (k == 19) = false := beq_eq_false_iff_ne.2 h19
    have HR : Hid (r = 5) := Lib.hid (by rw [hr]; unfold lvO; rw [if_neg h9, if_neg (by omega), if_neg (by omega)])
    clear hr h9 h4 h6 h7 h8 h17 h5 h12 h13 h16 h18 h19
    go_enter Tryz.func135, Tryz.ntmps135
    go_wp2_with fail
    go_ret
    exact ⟨by rw [HR.out]; rfl, (Below.refl _ _).alloc (Nat.le_refl _) _⟩
end Go.Proofs.YtndgoefhhjcllaaGreatDoor
/- The reference's joined; an expression's text where a level is asked for. -/
namespace Go.Proofs.YtndgoefhhjcllaaGreatDoor
open Go.RowKit

theorem inter_snoc (sep x : Txt) : ∀ (l : List Txt), l ≠ [] → (List.intersperse sep (l ++ [x])).flatten = (List.intersperse sep l).flatten ++ sep ++ x
  | [], h => absurd rfl h
  | [a], _ => by simp
  | a :: b :: r, _ => by
    have ih := inter_snoc sep x (b :: r) (by simp)
    rw [List.cons_append, List.cons_append, List.intersperse_cons_cons, List.intersperse_cons_cons, List.flatten_cons, List.flatten_cons, List.flatten_cons, List.flatten_cons, ← List.cons_append, ih]
    simp
theorem jn_snoc (l : List Txt) (sep x : Txt) : Lib.join (l ++ [x]) sep = Lib.join l sep ++ (if l = [] then [] else sep) ++ x := by
  unfold Lib.join List.intercalate
  by_cases h : l = []
  · subst h; simp
  · rw [if_neg h, inter_snoc sep x l h]
theorem strB_cat (a b : Txt) : strB (a ++ b) = strB a ++ strB b := by
  apply Go.WideShapes.bytes_inj
  rw [cat_data, data_strB, data_strB, data_strB]
theorem jn_len_take (l : List Txt) (sep : Txt) (k : Nat) : (Lib.join (l.take k) sep).length ≤ (Lib.join l sep).length := by
  have key : ∀ (b a : List Txt), (Lib.join a sep).length ≤ (Lib.join (a ++ b) sep).length := by
    intro b
    induction b with
    | nil => intro a; rw [List.append_nil]; exact Nat.le_refl _
    | cons x r ih =>
      intro a
      have h1 := ih (a ++ [x])
      rw [List.append_assoc, List.singleton_append, jn_snoc, List.length_append, List.length_append] at h1
      omega
  have := key (l.drop k) (l.take k)
  rwa [List.take_append_drop] at this

set_option maxRecDepth 100000 in
set_option maxHeartbeats 1000000 in
theorem rJoined_any (P : Nat → Prop) (A : Option Addr) (c : Nat) (L : List Txt) (sep : Txt) (w : World) (hL : NamesAt P w A L) (hl : L.length ≤ maxLen) (hz : (Lib.join L sep).length ≤ 4000000000000000000) (hs : sep.length ≤ 100) :
    Calls Tryz.prog 87 #[.slice A L.length c, .string (strB sep)] w fun e w' => e = .returned (.string (strB (Lib.join L sep))) ∧ w = w' := by
  obtain ⟨n, hn⟩ : ∃ n, n = L.length := ⟨_, rfl⟩
  have HN := Lib.hid hn
  have hl2 : (n : Int) ≤ 9223372036854775807 := by unfold maxLen at hl; omega
  have HL := Lib.hid hL
  have HZ := Lib.hid hz
  obtain ⟨S, hS⟩ : ∃ S, S = strB sep := ⟨_, rfl⟩
  have HS := Lib.hid hS
  have hSz : S.size ≤ 100 := by rw [hS, strB_size]; exact hs
  obtain ⟨R, hR⟩ : ∃ R, R = strB (Lib.join L sep) := ⟨_, rfl⟩
  have HR := Lib.hid hR
  rw [← hn, ← hS, ← hR]
  clear hl hL hn hz hS hs hR
  go_enter Tryz.func87, Tryz.ntmps87
  go_wp2_with fail
  go_loop [5, 6] (fun o i => ∃ (k : Nat) (O : ByteArray), k ≤ n ∧ i = .int .i64 (k : Int) ∧ o = .string O ∧ O.size ≤ 4000000000000000000 ∧ Hid (O = strB (Lib.join (L.take k) sep))) (fun o i => n - (intOf i).toNat)
  case atStart => exact ⟨0, ⟨#[]⟩, Nat.zero_le _, rfl, rfl, by decide, Lib.hid rfl⟩
  case round =>
    obtain ⟨k, O, hk, rfl, rfl, hOz, HO⟩ := hrel
    by_cases hkn : k < n
    · have hkl : k < L.length := by rw [← HN.out]; exact hkn
      obtain ⟨b, off, rfl, _, hlt, hc⟩ := HL.out (List.ne_nil_of_length_pos (by omega))
      have hcell := hc k L[k] (List.getElem?_eq_getElem hkl)
      clear hc
      have HT : Hid (Lib.join (L.take (k + 1)) sep = Lib.join (L.take k) sep ++ (if L.take k = [] then [] else sep) ++ L[k]) := Lib.hid (by rw [take_succ_of hkl, jn_snoc])
      have HTl := jn_len_take L sep (k + 1)
      have hzz := HZ.out
      rw [HT.out, List.length_append, List.length_append] at HTl
      have hOl : O.size = (Lib.join (L.take k) sep).length := by rw [HO.out, strB_size]
      obtain ⟨x, hx⟩ : ∃ x, x = strB L[k] := ⟨_, rfl⟩
      have hxz : x.size = L[k].length := by rw [hx, strB_size]
      have HX := Lib.hid hx
      rw [← hx] at hcell
      have i0 : (0 : Int) ≤ (k : Int) := by omega
      have i1 : (k : Int) < (n : Int) := by omega
      by_cases h0 : k = 0
      · have hs1 : O.size + x.size ≤ 4000000000000000000 := by omega
        have HO2 : Hid (O ++ x = strB (Lib.join (L.take (k + 1)) sep)) := Lib.hid (by
          rw [HT.out, if_pos (by subst h0; rfl), strB_cat, strB_cat, HX.out, HO.out]; congr 1
          apply Go.WideShapes.bytes_inj; rw [cat_data]; simp [data_strB])
        have hk0 : k ≤ 0 := by omega
        clear HTl hzz hOl hx hxz h0
        go_wp2_with fail
        go_round
        case rel => exact ⟨k + 1, O ++ x, by omega, by go_num, rfl, by rw [ByteArray.size_append]; omega, HO2⟩
        case measure => simp [intOf]; omega
      · have hne : ¬ L.take k = [] := fun h => by have := congrArg List.length h; rw [List.length_take, List.length_nil] at this; omega
        have hss : S.size = sep.length := by rw [HS.out, strB_size]
        rw [if_neg hne] at HTl
        have hs1 : O.size + S.size ≤ 4000000000000000000 := by omega
        have hs2 : O.size + S.size + x.size ≤ 4000000000000000000 := by omega
        have HO2 : Hid (O ++ S ++ x = strB (Lib.join (L.take (k + 1)) sep)) := Lib.hid (by rw [HT.out, if_neg hne, strB_cat, strB_cat, HX.out, HO.out, HS.out])
        have hk0 : 0 < k := by omega
        clear HTl hzz hOl hx hxz h0 hne hss
        go_wp2_with fail
        go_round
        case rel => exact ⟨k + 1, O ++ S ++ x, by omega, by go_num, rfl, by rw [ByteArray.size_append, ByteArray.size_append]; omega, HO2⟩
        case measure => simp [intOf]; omega
    · obtain rfl : k = n := by omega
      have HE : Hid (O = R) := Lib.hid (by rw [HR.out, HO.out, HN.out, List.take_length])
      go_wp2_with fail
      go_ret
      exact ⟨by rw [HE.out]; rfl, rfl⟩
end Go.Proofs.YtndgoefhhjcllaaGreatDoor
/- The reference's text of an expression where a level is asked for. -/
namespace Go.Proofs.YtndgoefhhjcllaaGreatDoor
open Go.RowKit

/-- the text where a level is asked for -/
def atT (a : Int) (e : Ex) : Txt := (atP a e.lp).flatten
theorem atT_eq (a : Int) (e : Ex) : atT a e = if a ≤ e.lv then textE e else [40] ++ (textE e ++ [41]) := by
  unfold atT atP textE
  show (if a ≤ e.lv then pcs e else _).flatten = _
  by_cases h : a ≤ e.lv
  · rw [if_pos h, if_pos h]
  · rw [if_neg h, if_neg h]
    show ([40] :: (pcs e ++ [[41]])).flatten = _
    simp
theorem textE_len {e : Ex} (h : wfE e) (hz : (nodesE 1 e).length ≤ 3000) : (textE e).length ≤ 3000000 := by
  have h1 := tot_pcs e h 1
  have h2 := flatten_len (pcs e)
  unfold textE
  omega
theorem atT_len {e : Ex} (a : Int) (h : wfE e) (hz : (nodesE 1 e).length ≤ 3000) : (atT a e).length ≤ 3000002 := by
  have := textE_len h hz
  rw [atT_eq]
  split
  · omega
  · simp; omega
/-- what the reference's text says of an expression -/
def TxSays (e : Ex) : Prop := wfE e → (nodesE 1 e).length ≤ 3000 → ∀ (k n : Int) (s t : ByteArray) (A0 : Option Addr) (n0 c0 : Nat) (A1 : Option Addr) (n1 c1 : Nat) (A2 : Option Addr) (n2 c2 : Nat) (w : World), RepE (fun _ => True) w e [.int .i64 k, .int .i64 n, .string s, .string t, .slice A0 n0 c0, .slice A1 n1 c1, .slice A2 n2 c2] →
  Calls Tryz.prog 34 #[.agg #[.int .i64 k, .int .i64 n, .string s, .string t, .slice A0 n0 c0, .slice A1 n1 c1, .slice A2 n2 c2]] w fun r w' => r = .returned (.string (strB (textE e))) ∧ Below w.heap.size w w'
def AtSays (e : Ex) : Prop := ∀ (least : Int) (k n : Int) (s t : ByteArray) (A0 : Option Addr) (n0 c0 : Nat) (A1 : Option Addr) (n1 c1 : Nat) (A2 : Option Addr) (n2 c2 : Nat) (w : World), RepE (fun _ => True) w e [.int .i64 k, .int .i64 n, .string s, .string t, .slice A0 n0 c0, .slice A1 n1 c1, .slice A2 n2 c2] →
  Calls Tryz.prog 83 #[.agg #[.int .i64 k, .int .i64 n, .string s, .string t, .slice A0 n0 c0, .slice A1 n1 c1, .slice A2 n2 c2], .int .i64 least] w fun r w' => r = .returned (.string (strB (atT least e))) ∧ Below w.heap.size w w'
theorem wf_op {e : Ex} (h : wfE e) : e.k = 9 → (opLv e.s).isSome = true := fun h9 => by
  cases e with
  | mk k n s t ns l ops bs =>
    obtain ⟨h0, _, _⟩ := h.parts
    obtain ⟨kn, H⟩ := shape_of h0
    have hk := H.hk
    have hkn : kn = 9 := by have : (k : Int) = 9 := h9; omega
    subst hkn
    have h1 := H.s1
    rw [show useOf 9 1 = 4 by decide] at h1
    exact h1
set_option maxRecDepth 100000 in
set_option maxHeartbeats 1000000 in
theorem at_any (e : Ex) (hx : TxSays e) (hwf : wfE e) (hz : (nodesE 1 e).length ≤ 3000) : AtSays e := by
  intro least k n s t A0 n0 c0 A1 n1 c1 A2 n2 c2 w hre
  obtain ⟨hk, -, hs, -⟩ := hre.sOf
  subst hs
  have HLv := Lib.hid (fun w => rLevel_any k (.int .i64 n) e.s (.string t) (.slice A0 n0 c0) (.slice A1 n1 c1) (.slice A2 n2 c2) w (fun h => wf_op hwf (by rw [← hk]; exact h)))
  have HTx := Lib.hid (fun w' (hb : Below w.heap.size w w') => hx hwf hz k n (strB e.s) t A0 n0 c0 A1 n1 c1 A2 n2 c2 w' (hre.keep (Same.of_below hb)))
  obtain ⟨X, hX⟩ : ∃ X, X = strB (textE e) := ⟨_, rfl⟩
  have hXz : X.size ≤ 3000000 := by rw [hX, strB_size]; exact textE_len hwf hz
  obtain ⟨L, hL⟩ : ∃ L, L = lvO k e.s := ⟨_, rfl⟩
  have HR : Hid (strB (atT least e) = if least ≤ L then X else ⟨#[40]⟩ ++ X ++ ⟨#[41]⟩) := Lib.hid (by
    rw [atT_eq, hL, hk, show lvO e.k e.s = e.lv from rfl]
    split
    · exact hX.symm
    · rw [strB_cat, strB_cat, hX, ← ByteArray.append_assoc]; rfl)
  rw [← hX] at HTx
  rw [← hL] at HLv
  obtain ⟨S, hS⟩ : ∃ S, S = strB e.s := ⟨_, rfl⟩
  obtain ⟨Y, hY⟩ : ∃ Y, Y = strB (atT least e) := ⟨_, rfl⟩
  rw [← hY] at HR ⊢
  rw [← hS] at HLv HTx ⊢
  clear hX hL hS hY hre hx hwf hz hk
  obtain ⟨W1, hW1⟩ : ∃ W1, w.alloc (.cells #[.int .i64 k, .int .i64 n, .string S, .string t, .slice A0 n0 c0, .slice A1 n1 c1, .slice A2 n2 c2] 27) = W1 := ⟨_, rfl⟩
  have HB0 : Hid (Below w.heap.size w W1) := Lib.hid (by rw [← hW1]; exact (Below.refl _ _).alloc (Nat.le_refl _) _)
  have HE1 : Hid (EB W1 w.heap.size (.int .i64 k) (.int .i64 n) (.string S) (.string t) (.slice A0 n0 c0) (.slice A1 n1 c1) (.slice A2 n2 c2)) := Lib.hid (by rw [← hW1]; exact EB.new w _ _ _ _ _ _ _)
  have e0 := HE1.out.c0
  have e1 := HE1.out.c1
  have e2 := HE1.out.c2
  have e3 := HE1.out.c3
  have e4 := HE1.out.c4
  have e5 := HE1.out.c5
  have e6 := HE1.out.c6
  by_cases hl : L < least
  · have HR2 : Hid (Y = ⟨#[40]⟩ ++ X ++ ⟨#[41]⟩) := Lib.hid (by rw [HR.out, if_neg (by omega)])
    have hd : decide (L < least) = true := decide_eq_true hl
    clear hl
    go_enter Tryz.func83, Tryz.ntmps83
    go_wp2_with fail
    clear hW1
    refine (HLv.out W1).mono ?_
    rintro r w1 ⟨rfl, hb⟩
    have HB1 := Lib.hid (HB0.out.trans (hb.mono HB0.out.size))
    have HE2 := Lib.hid (HE1.out.kept (grown_below hb none) (by simp))
    clear hb e0 e1 e2 e3 e4 e5 e6
    have e0 := HE2.out.c0
    have e1 := HE2.out.c1
    have e2 := HE2.out.c2
    have e3 := HE2.out.c3
    have e4 := HE2.out.c4
    have e5 := HE2.out.c5
    have e6 := HE2.out.c6
    go_wp2_with fail
    refine (HTx.out w1 HB1.out).mono ?_
    rintro r w2 ⟨rfl, hb⟩
    have HB2 := Lib.hid (HB1.out.trans (hb.mono HB1.out.size))
    clear hb
    go_wp2_with fail
    go_ret
    exact ⟨by rw [HR2.out]; rfl, HB2.out⟩
  · have HR2 : Hid (Y = X) := Lib.hid (by rw [HR.out, if_pos (by omega)])
    have hd : decide (L < least) = false := decide_eq_false hl
    clear hl
    go_enter Tryz.func83, Tryz.ntmps83
    go_wp2_with fail
    clear hW1
    refine (HLv.out W1).mono ?_
    rintro r w1 ⟨rfl, hb⟩
    have HB1 := Lib.hid (HB0.out.trans (hb.mono HB0.out.size))
    have HE2 := Lib.hid (HE1.out.kept (grown_below hb none) (by simp))
    clear hb e0 e1 e2 e3 e4 e5 e6
    have e0 := HE2.out.c0
    have e1 := HE2.out.c1
    have e2 := HE2.out.c2
    have e3 := HE2.out.c3
    have e4 := HE2.out.c4
    have e5 := HE2.out.c5
    have e6 := HE2.out.c6
    go_wp2_with fail
    refine (HTx.out w1 HB1.out).mono ?_
    rintro r w2 ⟨rfl, hb⟩
    have HB2 := Lib.hid (HB1.out.trans (hb.mono HB1.out.size))
    clear hb
    go_wp2_with fail
    go_ret
    exact ⟨by rw [HR2.out]; rfl, HB2.out⟩
end Go.Proofs.YtndgoefhhjcllaaGreatDoor
/- The reference's text, kind by kind: what serves all kinds. -/
namespace Go.Proofs.YtndgoefhhjcllaaGreatDoor
open Go.RowKit

/-- what the reference's text answers for a node, by its cells -/
def TxR (e : Ex) : Prop := ∀ (cs : List Value) (w : World), RepE (fun _ => True) w e cs → Calls Tryz.prog 34 #[.agg cs.toArray] w fun r w' => r = .returned (.string (strB (textE e))) ∧ Below w.heap.size w w'
/-- a list of expressions in brackets -/
def lsT (l : List Ex) : Txt := [91] ++ Lib.join (l.map (atT 0)) [44, 32] ++ [93]
/-- an arm as text -/
def arT (o : Txt × List Txt) (e : Ex) : Txt := Lib.join (o.1 :: o.2) [32] ++ [32, 45, 62, 32] ++ atT 0 e
/-- arms in braces -/
def clT (ops : List (Txt × List Txt)) (bs : List Ex) : Txt := if bs.length = 0 then [123, 32, 125] else [123, 32] ++ Lib.join (List.zipWith arT ops bs) [59, 32] ++ [32, 125]
theorem PartsAt.below {B : Nat} {w w' : World} {A : Option Addr} {l : List Ex} (h : PartsAt B w A l) (hb : Below w.heap.size w w') : PartsAt B w' A l := fun h0 => by
  obtain ⟨b, off, e, h1, h2, hc⟩ := h h0
  have k : ∀ o, w'.cell? ⟨b, o, none⟩ = w.cell? ⟨b, o, none⟩ := fun o => Below.cell (p := ⟨b, o, none⟩) hb h2
  refine ⟨b, off, e, h1, Nat.lt_of_lt_of_le h2 hb.size, fun j e hj => ?_⟩
  obtain ⟨k0, n, s, t, A0, n0, c0, A1, n1, c1, A2, n2, c2, hr, d0, d1, d2, d3, d4, d5, d6⟩ := hc j e hj
  exact ⟨k0, n, s, t, A0, n0, c0, A1, n1, c1, A2, n2, c2, hr.keep (Same.of_below hb), (k _).trans d0, (k _).trans d1, (k _).trans d2, (k _).trans d3, (k _).trans d4, (k _).trans d5, (k _).trans d6⟩
theorem ArmsAt.below {B : Nat} {w w' : World} {A : Option Addr} {hs : List (Txt × List Txt)} {bs : List Ex} (h : ArmsAt B w A hs bs) (hb : Below w.heap.size w w') : ArmsAt B w' A hs bs := fun h0 => by
  obtain ⟨b, off, e, h1, h2, hc⟩ := h h0
  have kk : ∀ o, w'.cell? ⟨b, o, none⟩ = w.cell? ⟨b, o, none⟩ := fun o => Below.cell (p := ⟨b, o, none⟩) hb h2
  refine ⟨b, off, e, h1, Nat.lt_of_lt_of_le h2 hb.size, fun j hd e g1 g2 => ?_⟩
  obtain ⟨An, cn, k, n, s, t, A0, n0, c0, A1, n1, c1, A2, n2, c2, H⟩ := hc j hd e g1 g2
  exact ⟨An, cn, k, n, s, t, A0, n0, c0, A1, n1, c1, A2, n2, c2, H.names.keep (Same.of_below hb), H.len, H.rep.keep (Same.of_below hb), (kk _).trans H.d0, (kk _).trans H.d1, (kk _).trans H.d2, (kk _).trans H.d3, (kk _).trans H.d4, (kk _).trans H.d5, (kk _).trans H.d6, (kk _).trans H.d7, (kk _).trans H.d8⟩
theorem PtS.keep {w0 w : World} {b o : Nat} {v : Value} (h : PtS w0 w) (hlt : b < w0.heap.size) (hc : w0.cell? ⟨b, o, none⟩ = some v) : w.cell? ⟨b, o, none⟩ = some v := (Below.cell (p := ⟨b, o, none⟩) (show Below w0.heap.size w0 w from h) hlt).trans hc
theorem PartCells.up {B b o : Nat} {w W1 : World} {e : Ex} {k n : Int} {s t : ByteArray} {A0 : Option Addr} {n0 c0 : Nat} {A1 : Option Addr} {n1 c1 : Nat} {A2 : Option Addr} {n2 c2 : Nat} (h : PartCells B w b o e k n s t A0 n0 c0 A1 n1 c1 A2 n2 c2) (hb : b < w.heap.size) (hB : Below w.heap.size w W1) :
    W1.cell? ⟨b, o, none⟩ = some (.int .i64 k) ∧ W1.cell? ⟨b, o + 1, none⟩ = some (.int .i64 n) ∧ W1.cell? ⟨b, o + 2, none⟩ = some (.string s) ∧ W1.cell? ⟨b, o + 3, none⟩ = some (.string t) ∧ W1.cell? ⟨b, o + 4, none⟩ = some (.slice A0 n0 c0) ∧ W1.cell? ⟨b, o + 5, none⟩ = some (.slice A1 n1 c1) ∧ W1.cell? ⟨b, o + 6, none⟩ = some (.slice A2 n2 c2) := by
  have k : ∀ o, W1.cell? ⟨b, o, none⟩ = w.cell? ⟨b, o, none⟩ := fun o => Below.cell (p := ⟨b, o, none⟩) hB hb
  exact ⟨(k _).trans h.d0, (k _).trans h.d1, (k _).trans h.d2, (k _).trans h.d3, (k _).trans h.d4, (k _).trans h.d5, (k _).trans h.d6⟩
/-- where the rest of some names begins -/
def AdrOk (rn : List Txt) (nb noff : Nat) (A : Option Addr) : Prop := rn ≠ [] → A = some ⟨nb, noff + 1, none⟩
/-- what is said of a list in brackets, and of arms in braces -/
def LsSays (l : List Ex) : Prop := ∀ (A : Option Addr) (c : Nat) (w : World) (B : Nat), PartsAt B w A l → B ≤ w.heap.size → Calls Tryz.prog 85 #[.slice A l.length c] w fun r w' => r = .returned (.string (strB (lsT l))) ∧ Below w.heap.size w w'
def ClSays (ops : List (Txt × List Txt)) (bs : List Ex) : Prop := ∀ (A : Option Addr) (c : Nat) (w : World) (B : Nat), ArmsAt B w A ops bs → ops.length = bs.length → B ≤ w.heap.size → Calls Tryz.prog 86 #[.slice A bs.length c] w fun r w' => r = .returned (.string (strB (clT ops bs))) ∧ Below w.heap.size w w'
theorem jn_cons (a b : Txt) (r : List Txt) (sep : Txt) : Lib.join (a :: b :: r) sep = a ++ (sep ++ Lib.join (b :: r) sep) := by
  unfold Lib.join List.intercalate
  rw [List.intersperse_cons_cons, List.flatten_cons, List.flatten_cons]
theorem flat_listP (sep : Txt) : ∀ (xs : List (List Txt)), (listP sep xs).flatten = Lib.join (xs.map List.flatten) sep
  | [] => rfl
  | [x] => by simp [listP, Lib.join, List.intercalate]
  | x :: y :: r => by
    have ih := flat_listP sep (y :: r)
    rw [List.map_cons, List.map_cons, jn_cons, ← List.map_cons, ← ih]
    simp [listP]
theorem flat_spaced (ns : List Txt) (a : Txt) : a ++ (spacedP ns).flatten = Lib.join (a :: ns) [32] := by
  induction ns generalizing a with
  | nil => simp [spacedP, Lib.join, List.intercalate]
  | cons x r ih =>
    rw [jn_cons, ← ih x]
    simp [spacedP]
theorem flat_arm (o : Txt × List Txt) (e : Ex) : (armP o e.lp).flatten = arT o e := by
  unfold armP arT atT
  rw [← flat_spaced]
  simp
theorem flat_braces (ops : List (Txt × List Txt)) (bs : List Ex) : (bracesP ops (bs.map Ex.lp)).flatten = clT ops bs := by
  have hz : ∀ (ops : List (Txt × List Txt)) (bs : List Ex), (List.zipWith armP ops (bs.map Ex.lp)).map List.flatten = List.zipWith arT ops bs := by
    intro ops
    induction ops with
    | nil => intro bs; simp
    | cons o q ih =>
      intro bs
      cases bs with
      | nil => simp
      | cons e r => simp [ih r, flat_arm]
  unfold bracesP clT
  have h1 := flat_listP [59, 32] (List.zipWith armP ops (bs.map Ex.lp))
  rw [hz] at h1
  rw [List.flatten_append, List.flatten_append, List.flatten_append, h1, List.length_map]
  by_cases h : bs.length = 0
  · rw [if_pos h, if_pos h]
    have hb : bs = [] := List.length_eq_zero_iff.1 h
    subst hb
    simp [Lib.join, List.intercalate]
  · rw [if_neg h, if_neg h]
    simp
theorem txeq_con (n : Int) (s t : Txt) (ns : List Txt) (l : List Ex) (ops : List (Txt × List Txt)) (bs : List Ex) (h : 0 < l.length) : textE (.mk 10 n s t ns l ops bs) = s ++ lsT l := by
  unfold textE lsT
  rw [pcs_mk]
  have h1 := flat_listP [44, 32] ((l.map Ex.lp).map (atP 0))
  have h2 : ((l.map Ex.lp).map (atP 0)).map List.flatten = l.map (atT 0) := by rw [List.map_map, List.map_map]; rfl
  rw [h2] at h1
  show ([s] ++ (if (l.map Ex.lp).length = 0 then [] else [[91]] ++ (listP [44, 32] ((l.map Ex.lp).map (atP 0)) ++ [[93]]))).flatten = _
  rw [if_neg (by rw [List.length_map]; omega), List.flatten_append, List.flatten_append, List.flatten_append, h1]
  simp
-- GEN
theorem txeq_fun (n : Int) (s t : Txt) (a0 : Txt) (e0 : Ex) (rl : List Ex) (ops : List (Txt × List Txt)) (bs : List Ex) : textE (.mk 4 n s t [a0] (e0 :: rl) ops bs) = [102, 117, 110, 32] ++ a0 ++ [32, 45, 62, 32] ++ atT 0 e0 := by
  unfold textE atT
  rw [pcs_mk]
  simp [nodeP, openP, spacedP, behindP]
theorem txeq_app (n : Int) (s t : Txt) (ns : List Txt) (e0 e1 : Ex) (rl : List Ex) (ops : List (Txt × List Txt)) (bs : List Ex) : textE (.mk 5 n s t ns (e0 :: e1 :: rl) ops bs) = atT 4 e0 ++ [32] ++ atT 5 e1 := by
  unfold textE atT
  rw [pcs_mk]
  simp [nodeP, nth]
theorem txeq_let (n : Int) (s t : Txt) (a0 : Txt) (e0 e1 : Ex) (rl : List Ex) (ops : List (Txt × List Txt)) (bs : List Ex) : textE (.mk 6 n s t [a0] (e0 :: e1 :: rl) ops bs) = [108, 101, 116, 32] ++ a0 ++ [32, 61, 32] ++ atT 0 e0 ++ [32, 105, 110, 32] ++ atT 0 e1 := by
  unfold textE atT
  rw [pcs_mk]
  simp [nodeP, openP, spacedP, behindP]
theorem txeq_rec (n : Int) (s t : Txt) (a0 a1 : Txt) (e0 e1 : Ex) (rl : List Ex) (ops : List (Txt × List Txt)) (bs : List Ex) : textE (.mk 7 n s t [a0, a1] (e0 :: e1 :: rl) ops bs) = [114, 101, 99, 32] ++ a0 ++ [32] ++ a1 ++ [32, 61, 32] ++ atT 0 e0 ++ [32, 105, 110, 32] ++ atT 0 e1 := by
  unfold textE atT
  rw [pcs_mk]
  simp [nodeP, openP, spacedP, behindP]
theorem txeq_if (n : Int) (s t : Txt) (ns : List Txt) (e0 e1 e2 : Ex) (rl : List Ex) (ops : List (Txt × List Txt)) (bs : List Ex) : textE (.mk 8 n s t ns (e0 :: e1 :: e2 :: rl) ops bs) = [105, 102, 32] ++ atT 0 e0 ++ [32, 116, 104, 101, 110, 32] ++ atT 0 e1 ++ [32, 101, 108, 115, 101, 32] ++ atT 0 e2 := by
  unfold textE atT
  rw [pcs_mk]
  simp [nodeP, behindP]
theorem txeq_match (n : Int) (s t : Txt) (ns : List Txt) (e0 : Ex) (rl : List Ex) (ops : List (Txt × List Txt)) (bs : List Ex) : textE (.mk 11 n s t ns (e0 :: rl) ops bs) = [109, 97, 116, 99, 104, 32] ++ atT 0 e0 ++ [32] ++ clT ops bs := by
  unfold textE atT
  rw [pcs_mk]
  simp [nodeP, bracedP, nth, flat_braces]
theorem txeq_do (n : Int) (s t : Txt) (ns : List Txt) (e0 : Ex) (rl : List Ex) (ops : List (Txt × List Txt)) (bs : List Ex) : textE (.mk 12 n s t ns (e0 :: rl) ops bs) = [100, 111, 32] ++ s ++ [32] ++ atT 5 e0 := by
  unfold textE atT
  rw [pcs_mk]
  simp [nodeP, callP, nth]
theorem txeq_atk (n : Int) (s t : Txt) (ns : List Txt) (e0 : Ex) (rl : List Ex) (ops : List (Txt × List Txt)) (bs : List Ex) : textE (.mk 13 n s t ns (e0 :: rl) ops bs) = s ++ [46] ++ t ++ [32] ++ atT 5 e0 := by
  unfold textE atT
  rw [pcs_mk]
  simp [nodeP, callP, nth]
theorem txeq_handle0 (s t : Txt) (ns : List Txt) (e0 : Ex) (rl : List Ex) (ops : List (Txt × List Txt)) (bs : List Ex) : textE (.mk 14 0 s t ns (e0 :: rl) ops bs) = [104, 97, 110, 100, 108, 101, 32] ++ s ++ [32] ++ atT 0 e0 ++ [32] ++ clT ops bs := by
  unfold textE atT
  rw [pcs_mk]
  simp [nodeP, bracedP, nth, flat_braces]
theorem txeq_handle1 (s t : Txt) (ns : List Txt) (e0 : Ex) (rl : List Ex) (ops : List (Txt × List Txt)) (bs : List Ex) : textE (.mk 14 1 s t ns (e0 :: rl) ops bs) = [115, 104, 97, 108, 108, 111, 119, 32] ++ s ++ [32] ++ atT 0 e0 ++ [32] ++ clT ops bs := by
  unfold textE atT
  rw [pcs_mk]
  simp [nodeP, bracedP, nth, flat_braces]
theorem txeq_named (n : Int) (s t : Txt) (a0 : Txt) (e0 : Ex) (rl : List Ex) (ops : List (Txt × List Txt)) (bs : List Ex) : textE (.mk 15 n s t [a0] (e0 :: rl) ops bs) = [110, 97, 109, 101, 100, 32] ++ a0 ++ [32] ++ s ++ [32] ++ atT 0 e0 ++ [32] ++ clT ops bs := by
  unfold textE atT
  rw [pcs_mk]
  simp [nodeP, bracedP, nth, flat_braces]
theorem txeq_mask (n : Int) (s t : Txt) (ns : List Txt) (e0 : Ex) (rl : List Ex) (ops : List (Txt × List Txt)) (bs : List Ex) : textE (.mk 16 n s t ns (e0 :: rl) ops bs) = [109, 97, 115, 107, 32] ++ s ++ [32] ++ atT 5 e0 := by
  unfold textE atT
  rw [pcs_mk]
  simp [nodeP, callP, nth]
theorem txeq_using (n : Int) (s t : Txt) (a0 : Txt) (rn : List Txt) (e0 e1 e2 : Ex) (rl : List Ex) (ops : List (Txt × List Txt)) (bs : List Ex) : textE (.mk 17 n s t (a0 :: rn) (e0 :: e1 :: e2 :: rl) ops bs) = [117, 115, 105, 110, 103, 32] ++ a0 ++ [32, 91] ++ Lib.join rn [44, 32] ++ [93, 32, 61, 32] ++ atT 0 e0 ++ [32, 99, 108, 111, 115, 101, 32] ++ atT 0 e1 ++ [32, 105, 110, 32] ++ atT 0 e2 := by
  unfold textE atT
  rw [pcs_mk]
  simp [nodeP, behindP]
theorem txeq_resume (n : Int) (s t : Txt) (ns : List Txt) (e0 : Ex) (rl : List Ex) (ops : List (Txt × List Txt)) (bs : List Ex) : textE (.mk 18 n s t ns (e0 :: rl) ops bs) = [114, 101, 115, 117, 109, 101, 32] ++ s ++ [32] ++ atT 5 e0 := by
  unfold textE atT
  rw [pcs_mk]
  simp [nodeP, callP, nth]
end Go.Proofs.YtndgoefhhjcllaaGreatDoor
/- The reference's comparison of types. -/
namespace Go.Proofs.YtndgoefhhjcllaaGreatDoor
open Go.RowKit

/-- what a comparison of a type with any other one answers -/
def StSays (a : Ty) : Prop := ∀ (b : Ty) (cs1 cs2 : List Value) (w : World), RepT (fun _ => True) w a cs1 → RepT (fun _ => True) w b cs2 → Calls Tryz.prog 26 #[.agg cs1.toArray, .agg cs2.toArray] w fun r w' => r = .returned (.bool (sameT a b)) ∧ Below w.heap.size w w'
set_option maxRecDepth 100000 in
set_option maxHeartbeats 8000000 in
theorem rSameType_any : ∀ a, StSays a := by
  refine Ty.ind fun a ih b cs1 cs2 w h1 h2 => ?_
  cases a with
  | mk k n s l ls tl =>
  cases b with
  | mk k' n' s' l' ls' tl' =>
  have hE := sameT_eq (.mk k n s l ls tl) (.mk k' n' s' l' ls' tl')
  obtain ⟨Al, cl, Ar, cr, rfl, hf, hls, hl⟩ := h1.tight
  obtain ⟨Bl, dl, Br, dr, rfl, hf', hls', hl'⟩ := h2.tight
  have bd2 : l.length ≤ maxLen := Nat.le_trans hf.hcl.1 hf.hcl.2
  have bd2' : l'.length ≤ maxLen := Nat.le_trans hf'.hcl.1 hf'.hcl.2
  have bd3 : ls.length ≤ maxLen := Nat.le_trans hf.hcr.1 hf.hcr.2
  have bd3' : ls'.length ≤ maxLen := Nat.le_trans hf'.hcr.1 hf'.hcr.2
  have hPl : TParts w.heap.size w Al l := tparts_of hl
  have hPl' : TParts w.heap.size w Bl l' := tparts_of hl'
  obtain ⟨S, hS⟩ : ∃ S, S = strB s := ⟨_, rfl⟩
  obtain ⟨nl, hnl⟩ : ∃ q, q = l.length := ⟨_, rfl⟩
  obtain ⟨nr, hnr⟩ : ∃ q, q = ls.length := ⟨_, rfl⟩
  obtain ⟨S', hS'⟩ : ∃ S, S = strB s' := ⟨_, rfl⟩
  obtain ⟨nl', hnl'⟩ : ∃ q, q = l'.length := ⟨_, rfl⟩
  obtain ⟨nr', hnr'⟩ : ∃ q, q = ls'.length := ⟨_, rfl⟩
  obtain ⟨VR, hVR⟩ : ∃ R, R = (decide (tl = tl') && decide (ls = ls')) := ⟨_, rfl⟩
  have HQr : Hid (∀ w', Below w.heap.size w w' → Calls Tryz.prog 52 #[.agg #[.slice Ar nr cr, .int .i64 tl], .agg #[.slice Br nr' dr, .int .i64 tl']] w' fun e w2 => e = .returned (.bool VR) ∧ Below w'.heap.size w' w2) := Lib.hid (fun w' hb => by
    rw [hnr, hnr', hVR]
    exact sameRow_any _ _ Ar Br cr dr ls ls' tl tl' w' (hls.keep (Same.of_below hb)) (hls'.keep (Same.of_below hb)) ⟨bd3, bd3'⟩)
  obtain ⟨R, hR⟩ : ∃ R, R = sameT (.mk k n s l ls tl) (.mk k' n' s' l' ls' tl') := ⟨_, rfl⟩
  show Calls Tryz.prog 26 #[.agg #[.int .i64 k, .int .i64 n, .string (strB s), .slice Al l.length cl, .slice Ar ls.length cr, .int .i64 tl], .agg #[.int .i64 k', .int .i64 n', .string (strB s'), .slice Bl l'.length dl, .slice Br ls'.length dr, .int .i64 tl']] w fun r w' => r = .returned (.bool (sameT (.mk k n s l ls tl) (.mk k' n' s' l' ls' tl'))) ∧ Below w.heap.size w w'
  rw [← hR, ← hS, ← hS', ← hnl, ← hnl', ← hnr, ← hnr']
  rw [← hR] at hE
  have hnlb : (nl : Int) ≤ 9223372036854775807 := by rw [hnl]; unfold maxLen at bd2; omega
  have HB2 : Hid (Below w.heap.size w ((w.alloc (.cells #[.int .i64 k, .int .i64 n, .string S, .slice Al nl cl, .slice Ar nr cr, .int .i64 tl] 41)).alloc (.cells #[.int .i64 k', .int .i64 n', .string S', .slice Bl nl' dl, .slice Br nr' dr, .int .i64 tl'] 41))) := Lib.hid (((Below.refl _ _).alloc (Nat.le_refl _) _).alloc (by simp) _)
  obtain ⟨W2, hW2⟩ : ∃ W, (w.alloc (.cells #[.int .i64 k, .int .i64 n, .string S, .slice Al nl cl, .slice Ar nr cr, .int .i64 tl] 41)).alloc (.cells #[.int .i64 k', .int .i64 n', .string S', .slice Bl nl' dl, .slice Br nr' dr, .int .i64 tl'] 41) = W := ⟨_, rfl⟩
  have HEa : Hid (TyBx W2 w.heap.size (.int .i64 k) (.int .i64 n) (.string S) (.slice Al nl cl) (.slice Ar nr cr) (.int .i64 tl)) := Lib.hid (by rw [← hW2]; exact (TyBx.new w _ _ _ _ _ _).kept (World.grownBy_alloc _ _ none) (by simp))
  have HEb : Hid (TyBx W2 (w.heap.size + 1) (.int .i64 k') (.int .i64 n') (.string S') (.slice Bl nl' dl) (.slice Br nr' dr) (.int .i64 tl')) := Lib.hid (by rw [← hW2]; have := TyBx.new (w.alloc (.cells #[.int .i64 k, .int .i64 n, .string S, .slice Al nl cl, .slice Ar nr cr, .int .i64 tl] 41)) (.int .i64 k') (.int .i64 n') (.string S') (.slice Bl nl' dl) (.slice Br nr' dr) (.int .i64 tl'); rwa [World.size_alloc] at this)
  rw [hW2] at HB2
  obtain ⟨a0, a1, a2, a3, a4, a5⟩ := HEa.out.c
  obtain ⟨b0, b1, b2, b3, b4, b5⟩ := HEb.out.c
  clear bd2 bd2' bd3 bd3' hf hf' hl hl' hls hls' h1 h2
  by_cases ek : k = k'
  case neg =>
    have HR : Hid (R = false) := Lib.hid (by rw [hE, show hdT _ _ = false from by simp [hdT, Ty.k, Ty.n, Ty.s, Ty.ls, Ty.tl, ek]]; rfl)
    have f1 : (k != k') = true := by simpa using ek
    clear hS hS' hnl hnl' hnr hnr' hR hE hVR hPl hPl' ih ek
    go_enter Tryz.func26, Tryz.ntmps26
    go_wp2_with fail
    go_ret
    exact ⟨by rw [HR.out]; rfl, HB2.out⟩
  subst ek
  by_cases en : n = n'
  case neg =>
    have HR : Hid (R = false) := Lib.hid (by rw [hE, show hdT _ _ = false from by simp [hdT, Ty.k, Ty.n, Ty.s, Ty.ls, Ty.tl, en]]; rfl)
    have f1 : (n != n') = true := by simpa using en
    clear hS hS' hnl hnl' hnr hnr' hR hE hVR hPl hPl' ih en
    go_enter Tryz.func26, Tryz.ntmps26
    go_wp2_with fail
    go_ret
    exact ⟨by rw [HR.out]; rfl, HB2.out⟩
  subst en
  by_cases es : s = s'
  case neg =>
    have HR : Hid (R = false) := Lib.hid (by rw [hE, show hdT _ _ = false from by simp [hdT, Ty.k, Ty.n, Ty.s, Ty.ls, Ty.tl, es]]; rfl)
    have f0 : (S.toList == S'.toList) = false := by rw [hS, hS', ByteArray.toList_eq, ByteArray.toList_eq, data_strB, data_strB]; exact beq_eq_false_iff_ne.2 es
    have f1 : (S.toList != S'.toList) = true := by simp only [bne, f0]; rfl
    clear hS hS' hnl hnl' hnr hnr' hR hE hVR hPl hPl' ih es
    go_enter Tryz.func26, Tryz.ntmps26
    go_wp2_with fail
    go_ret
    exact ⟨by rw [HR.out]; rfl, HB2.out⟩
  subst es
  obtain rfl : S' = S := by rw [hS, hS']
  have hHd : hdT (.mk k n s l ls tl) (.mk k n s l' ls' tl') = VR := by rw [hVR]; simp only [hdT, Ty.k, Ty.n, Ty.s, Ty.ls, Ty.tl, decide_true, Bool.true_and]; exact Bool.and_comm _ _
  rw [hHd] at hE
  cases VR with
  | false =>
    have HR : Hid (R = false) := Lib.hid (by rw [hE]; rfl)
    clear hS hS' hnl hnl' hnr hnr' hR hE hVR hPl hPl' ih hHd
    go_enter Tryz.func26, Tryz.ntmps26
    go_wp2_with fail
    clear hW2
    refine (HQr.out _ HB2.out).mono ?_
    rintro r w3 ⟨rfl, hb⟩
    have HB3 := Lib.hid (HB2.out.trans (hb.mono HB2.out.size))
    have HEa3 := Lib.hid (HEa.out.kept (grown_below hb none) (by simp))
    have HEb3 := Lib.hid (HEb.out.kept (grown_below hb none) (by simp))
    clear hb a0 a1 a2 a3 a4 a5 b0 b1 b2 b3 b4 b5
    obtain ⟨_, _, _, a3, _, _⟩ := HEa3.out.c
    obtain ⟨_, _, _, b3, _, _⟩ := HEb3.out.c
    go_wp2_with fail
    go_ret
    exact ⟨by rw [HR.out]; rfl, HB3.out⟩
  | true =>
    have HRt : Hid (R = sameTL l l') := Lib.hid (by rw [hE]; rfl)
    by_cases enl : nl = nl'
    case neg =>
      have HR : Hid (R = false) := Lib.hid (by
        rw [HRt.out]
        cases hq : sameTL l l' with
        | false => rfl
        | true => exact absurd (by rw [hnl, hnl']; exact sameTL_len hq) enl)
      have f1 : ((nl : Int) != (nl' : Int)) = true := by simp; omega
      have f2 : ((nl : Int) == (nl' : Int)) = false := by simp; omega
      clear hS hS' hnl hnl' hnr hnr' hR hE hVR hPl hPl' ih hHd enl
      go_enter Tryz.func26, Tryz.ntmps26
      go_wp2_with fail
      clear hW2
      refine (HQr.out _ HB2.out).mono ?_
      rintro r w3 ⟨rfl, hb⟩
      have HB3 := Lib.hid (HB2.out.trans (hb.mono HB2.out.size))
      have HEa3 := Lib.hid (HEa.out.kept (grown_below hb none) (by simp))
      have HEb3 := Lib.hid (HEb.out.kept (grown_below hb none) (by simp))
      clear hb a0 a1 a2 a3 a4 a5 b0 b1 b2 b3 b4 b5
      obtain ⟨_, _, _, a3, _, _⟩ := HEa3.out.c
      obtain ⟨_, _, _, b3, _, _⟩ := HEb3.out.c
      go_wp2_with fail
      go_ret
      exact ⟨by rw [HR.out]; rfl, HB3.out⟩
    subst enl
    have HNl := Lib.hid hnl
    have HNl' := Lib.hid hnl'
    have HPl := Lib.hid hPl
    have HPl' := Lib.hid hPl'
    have HIH := Lib.hid ih
    clear hS hS' hnl hnl' hnr hnr' hR hE hVR hPl hPl' ih hHd
    go_enter Tryz.func26, Tryz.ntmps26
    go_wp2_with fail
    clear hW2
    refine (HQr.out _ HB2.out).mono ?_
    rintro r w3 ⟨rfl, hb⟩
    have HB3 := Lib.hid (HB2.out.trans (hb.mono HB2.out.size))
    have HEa3 := Lib.hid (HEa.out.kept (grown_below hb none) (by simp))
    have HEb3 := Lib.hid (HEb.out.kept (grown_below hb none) (by simp))
    clear hb a0 a1 a2 a3 a4 a5 b0 b1 b2 b3 b4 b5
    obtain ⟨_, _, _, a3, _, _⟩ := HEa3.out.c
    obtain ⟨_, _, _, b3, _, _⟩ := HEb3.out.c
    have hzw : w.heap.size + 1 < w3.heap.size := HEb3.out.lt
    go_wp2_with fail
    go_loopw [5] (fun i wr => ∃ kk : Nat, kk ≤ nl ∧ i = .int .i64 (kk : Int) ∧ Hid (Below w3.heap.size w3 wr) ∧ Hid (sameTL (l.take kk) (l'.take kk) = true)) (fun i _ => nl - (intOf i).toNat)
    case atStart => exact ⟨0, Nat.zero_le _, rfl, Lib.hid (Below.refl _ _), Lib.hid rfl⟩
    case round =>
      obtain ⟨kk, hkk, rfl, hB, hSm⟩ := hrel
      clear a3 b3
      have HB0 := Lib.hid (HB3.out.trans (hB.out.mono HB3.out.size))
      have hzr : w.heap.size + 1 < wr.heap.size := Nat.lt_of_lt_of_le hzw hB.out.size
      have HEar := Lib.hid (HEa3.out.kept (grown_below hB.out none) (by simp))
      have HEbr := Lib.hid (HEb3.out.kept (grown_below hB.out none) (by simp))
      have hs0 : PtS wr wr := Below.refl _ _
      obtain ⟨_, _, _, a3, _, _⟩ := HEar.out.c
      obtain ⟨_, _, _, b3, _, _⟩ := HEbr.out.c
      have j0 : (0 : Int) ≤ (kk : Int) := by omega
      by_cases hkl : kk < nl
      case pos =>
        have hk1 : kk < l.length := by rw [← HNl.out]; exact hkl
        have hk2 : kk < l'.length := by rw [← HNl'.out]; exact hkl
        have j1 : (kk : Int) < (nl : Int) := by omega
        obtain ⟨x, hx⟩ : ∃ x, x = l[kk] := ⟨_, rfl⟩
        obtain ⟨y, hy⟩ : ∃ x, x = l'[kk] := ⟨_, rfl⟩
        have hxl : l[kk]? = some x := by rw [hx]; exact List.getElem?_eq_getElem hk1
        have hyl : l'[kk]? = some y := by rw [hy]; exact List.getElem?_eq_getElem hk2
        obtain ⟨b, off, rfl⟩ := HPl.out.addr (by omega)
        obtain ⟨b', off', rfl⟩ := HPl'.out.addr (by omega)
        obtain ⟨hbx, k1, m1, s1, X0, p0, c0, X1, p1, c1, t1, hcx⟩ := HPl.out.at hxl
        obtain ⟨hby, k2, m2, s2, Y0, q0, d0, Y1, q1, d1, t2, hcy⟩ := HPl'.out.at hyl
        obtain ⟨f0, f1, f2, f3, f4, f5⟩ := hcx.up hbx HB0.out
        obtain ⟨g0, g1, g2, g3, g4, g5⟩ := hcy.up hby HB0.out
        have hbx2 : b < wr.heap.size := Nat.lt_of_lt_of_le hbx HB0.out.size
        have hby2 : b' < wr.heap.size := Nat.lt_of_lt_of_le hby HB0.out.size
        obtain ⟨V, hV⟩ : ∃ V, V = sameT x y := ⟨_, rfl⟩
        have HS : Hid (∀ w', PtS wr w' → Calls Tryz.prog 26 #[.agg #[.int .i64 k1, .int .i64 m1, .string s1, .slice X0 p0 c0, .slice X1 p1 c1, .int .i64 t1], .agg #[.int .i64 k2, .int .i64 m2, .string s2, .slice Y0 q0 d0, .slice Y1 q1 d1, .int .i64 t2]] w' fun r w2 => r = .returned (.bool V) ∧ Below w'.heap.size w' w2) := Lib.hid (fun w' hp => by
          have hb : Below w.heap.size w w' := HB0.out.trans (Below.mono (show Below wr.heap.size wr w' from hp) HB0.out.size)
          rw [hV]
          exact HIH.out x (List.mem_of_getElem? hxl) y _ _ w' ((hcx.rep.weaken (Q := fun _ => True) (fun _ _ => trivial)).keep (Same.of_below hb)) ((hcy.rep.weaken (Q := fun _ => True) (fun _ _ => trivial)).keep (Same.of_below hb)))
        have HV := Lib.hid hV
        have HX := Lib.hid hxl
        have HY := Lib.hid hyl
        have HTk : Hid (sameTL (l.take (kk + 1)) (l'.take (kk + 1)) = (sameTL (l.take kk) (l'.take kk) && V)) := Lib.hid (by rw [take_succ_of hk1, take_succ_of hk2, ← hx, ← hy, sameTL_snoc x y (by rw [List.length_take, List.length_take]; omega), hV])
        clear hx hy hxl hyl hcx hcy hV hbx hby
        have HAll := Lib.hid (fun w' (h : PtS wr w') => And.intro (PtS.keep h (by omega) HEar.out.c.2.2.2.1) (And.intro (PtS.keep h hzr HEbr.out.c.2.2.2.1) (And.intro (PtS.keep h hbx2 f0) (And.intro (PtS.keep h hbx2 f1) (And.intro (PtS.keep h hbx2 f2) (And.intro (PtS.keep h hbx2 f3) (And.intro (PtS.keep h hbx2 f4) (And.intro (PtS.keep h hbx2 f5) (And.intro (PtS.keep h hby2 g0) (And.intro (PtS.keep h hby2 g1) (And.intro (PtS.keep h hby2 g2) (And.intro (PtS.keep h hby2 g3) (And.intro (PtS.keep h hby2 g4) (And.intro (PtS.keep h hby2 g5) h))))))))))))))
        clear f0 f1 f2 f3 f4 f5 g0 g1 g2 g3 g4 g5 HEar HEbr
        cases V with
        | false =>
          have HRf : Hid (R = false) := Lib.hid (by rw [HRt.out, sameTL_part kk x y HX.out HY.out HV.out.symm])
          go_wp2_with fail
          clear a3 b3
          go_region_held3 (fun w' => w'.cell? ⟨w.heap.size, 3, none⟩ = some (.slice (some ⟨b, off, none⟩) nl cl) ∧ w'.cell? ⟨w.heap.size + 1, 3, none⟩ = some (.slice (some ⟨b', off', none⟩) nl dl) ∧ w'.cell? ⟨b, off + kk * 6, none⟩ = some (.int .i64 k1) ∧ w'.cell? ⟨b, off + kk * 6 + 1, none⟩ = some (.int .i64 m1) ∧ w'.cell? ⟨b, off + kk * 6 + 2, none⟩ = some (.string s1) ∧ w'.cell? ⟨b, off + kk * 6 + 3, none⟩ = some (.slice X0 p0 c0) ∧ w'.cell? ⟨b, off + kk * 6 + 4, none⟩ = some (.slice X1 p1 c1) ∧ w'.cell? ⟨b, off + kk * 6 + 5, none⟩ = some (.int .i64 t1) ∧ w'.cell? ⟨b', off' + kk * 6, none⟩ = some (.int .i64 k2) ∧ w'.cell? ⟨b', off' + kk * 6 + 1, none⟩ = some (.int .i64 m2) ∧ w'.cell? ⟨b', off' + kk * 6 + 2, none⟩ = some (.string s2) ∧ w'.cell? ⟨b', off' + kk * 6 + 3, none⟩ = some (.slice Y0 q0 d0) ∧ w'.cell? ⟨b', off' + kk * 6 + 4, none⟩ = some (.slice Y1 q1 d1) ∧ w'.cell? ⟨b', off' + kk * 6 + 5, none⟩ = some (.int .i64 t2) ∧ PtS wr w')
            ((refine HAll.out _ ?_; first | assumption | exact hs0.drew | exact .below ‹_› hs0.drew | exact .below ‹_› (.below ‹_› hs0.drew)))
            (first | (go_at_call 26; (with_reducible refine (HS.out _ (by first | assumption | exact hs0.drew | exact .below ‹_› hs0.drew | exact .below ‹_› (.below ‹_› hs0.drew))).mono ?_); rintro e w' ⟨rfl, hb⟩))
          rename_i hh
          have HBn := Lib.hid (hB.out.trans (Below.mono (show Below wr.heap.size wr _ from hh.2.2.2.2.2.2.2.2.2.2.2.2.2.2) hB.out.size))
          clear hh HAll hs0
          go_wp2_with fail
          go_ret
          exact ⟨by rw [HRf.out]; rfl, HB3.out.trans (HBn.out.mono HB3.out.size)⟩
        | true =>
          go_wp2_with fail
          clear a3 b3
          go_region_held3 (fun w' => w'.cell? ⟨w.heap.size, 3, none⟩ = some (.slice (some ⟨b, off, none⟩) nl cl) ∧ w'.cell? ⟨w.heap.size + 1, 3, none⟩ = some (.slice (some ⟨b', off', none⟩) nl dl) ∧ w'.cell? ⟨b, off + kk * 6, none⟩ = some (.int .i64 k1) ∧ w'.cell? ⟨b, off + kk * 6 + 1, none⟩ = some (.int .i64 m1) ∧ w'.cell? ⟨b, off + kk * 6 + 2, none⟩ = some (.string s1) ∧ w'.cell? ⟨b, off + kk * 6 + 3, none⟩ = some (.slice X0 p0 c0) ∧ w'.cell? ⟨b, off + kk * 6 + 4, none⟩ = some (.slice X1 p1 c1) ∧ w'.cell? ⟨b, off + kk * 6 + 5, none⟩ = some (.int .i64 t1) ∧ w'.cell? ⟨b', off' + kk * 6, none⟩ = some (.int .i64 k2) ∧ w'.cell? ⟨b', off' + kk * 6 + 1, none⟩ = some (.int .i64 m2) ∧ w'.cell? ⟨b', off' + kk * 6 + 2, none⟩ = some (.string s2) ∧ w'.cell? ⟨b', off' + kk * 6 + 3, none⟩ = some (.slice Y0 q0 d0) ∧ w'.cell? ⟨b', off' + kk * 6 + 4, none⟩ = some (.slice Y1 q1 d1) ∧ w'.cell? ⟨b', off' + kk * 6 + 5, none⟩ = some (.int .i64 t2) ∧ PtS wr w')
            ((refine HAll.out _ ?_; first | assumption | exact hs0.drew | exact .below ‹_› hs0.drew | exact .below ‹_› (.below ‹_› hs0.drew)))
            (first | (go_at_call 26; (with_reducible refine (HS.out _ (by first | assumption | exact hs0.drew | exact .below ‹_› hs0.drew | exact .below ‹_› (.below ‹_› hs0.drew))).mono ?_); rintro e w' ⟨rfl, hb⟩))
          rename_i hh
          have HBn := Lib.hid (hB.out.trans (Below.mono (show Below wr.heap.size wr _ from hh.2.2.2.2.2.2.2.2.2.2.2.2.2.2) hB.out.size))
          clear hh HAll hs0
          go_wp2_with fail
          go_roundw
          case rel => exact ⟨kk + 1, by omega, by go_num, HBn, Lib.hid (by rw [HTk.out, hSm.out]; rfl)⟩
          case measure => simp [intOf]; omega
      case neg =>
        obtain rfl : kk = nl := by omega
        have HR : Hid (R = true) := Lib.hid (by have h := hSm.out; rw [List.take_of_length_le (by rw [← HNl.out]; exact Nat.le_refl _), List.take_of_length_le (by rw [← HNl'.out]; exact Nat.le_refl _)] at h; rw [HRt.out, h])
        clear hs0 hSm
        go_wp2_with fail
        go_ret
        exact ⟨by rw [HR.out]; rfl, HB0.out⟩
end Go.Proofs.YtndgoefhhjcllaaGreatDoor
