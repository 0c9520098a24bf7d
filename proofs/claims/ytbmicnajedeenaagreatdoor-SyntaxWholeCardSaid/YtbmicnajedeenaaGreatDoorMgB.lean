/- Texts put together by program: Ex OpenE Great GreatW Pars ParsE ParsA ParsH ParsC ParsO ParsP ParsX ParsY ParsR ParsS ParsN ParsB ParsL ParsM ParsZ ParsV. -/
import Derived.Test.YtbmicnajedeenaaGreatDoorMgA
import Derived.Below
import Derived.RowKit
import Derived.Deep.Slices
import Derived.Deep.Fields
import Derived.ChangeSame
import Derived.BigQuiet
import Derived.StillTailTactics
import Derived.Recover
import Derived.Deep.RegionHeld3
import Derived.Deep.RegionWith
import Derived.BigRegion
import Derived.Defers
/- Expressions as trees, and how they lie in memory. -/
namespace Go.Proofs.YtbmicnajedeenaaGreatDoor
open Go.RowKit

/-- an expression: its kind, number, two strings, names, parts; the heads of its arms, and their bodies -/
inductive Ex where
  | mk (k n : Int) (s t : List UInt8) (ns : List (List UInt8)) (l : List Ex) (ops : List (List UInt8 × List (List UInt8))) (bs : List Ex)
namespace Ex
def k : Ex → Int | mk k .. => k
def n : Ex → Int | mk _ n .. => n
def s : Ex → List UInt8 | mk _ _ s .. => s
def t : Ex → List UInt8 | mk _ _ _ t .. => t
def ns : Ex → List (List UInt8) | mk _ _ _ _ ns .. => ns
def l : Ex → List Ex | mk _ _ _ _ _ l .. => l
def ops : Ex → List (List UInt8 × List (List UInt8)) | mk _ _ _ _ _ _ ops _ => ops
def bs : Ex → List Ex | mk _ _ _ _ _ _ _ bs => bs
def parts (e : Ex) : List Ex := e.l ++ e.bs
end Ex

def okS (s : List UInt8) : Prop := s.length ≤ maxLen
def okN (n : Int) : Prop := -9223372036854775808 ≤ n ∧ n ≤ 9223372036854775807
/-- a list of strings lies in memory, in a block of some kind -/
def NamesAt (P : Nat → Prop) (w : World) (A : Option Addr) (L : List (List UInt8)) : Prop :=
  L ≠ [] → ∃ b off, A = some ⟨b, off, none⟩ ∧ P b ∧ b < w.heap.size ∧ ∀ (j : Nat) (l : List UInt8), L[j]? = some l → w.cell? ⟨b, off + j, none⟩ = some (.string (strB l))
/-- the cells from an address on -/
def CellsAt (w : World) (b off : Nat) (xs : List Value) : Prop := ∀ (i : Nat) (v : Value), xs[i]? = some v → w.cell? ⟨b, off + i, none⟩ = some v
def exCells (k n : Int) (s t : List UInt8) (An : Option Addr) (nn cn : Nat) (Al : Option Addr) (nl cl : Nat) (Aa : Option Addr) (na ca : Nat) : List Value :=
  [.int .i64 k, .int .i64 n, .string (strB s), .string (strB t), .slice An nn cn, .slice Al nl cl, .slice Aa na ca]
/-- the bounds of what is read -/
structure Fits (k n : Int) (s t : List UInt8) (ns : List (List UInt8)) (nl na cn cl ca : Nat) : Prop where
  hk : okN k
  hn : okN n
  hs : okS s
  ht : okS t
  hns : ∀ x ∈ ns, okS x
  hcn : ns.length ≤ cn ∧ cn ≤ maxLen
  hcl : nl ≤ cl ∧ cl ≤ maxLen
  hca : na ≤ ca ∧ ca ≤ maxLen

mutual
/-- seven cells are an expression, whose blocks are of some kind -/
def RepE (P : Nat → Prop) (w : World) : Ex → List Value → Prop
  | .mk k n s t ns l ops bs, cs => ∃ An cn Al cl Aa ca, cs = exCells k n s t An ns.length cn Al l.length cl Aa bs.length ca ∧ Fits k n s t ns l.length bs.length cn cl ca ∧ NamesAt P w An ns ∧
      (l ≠ [] → ∃ b off, Al = some ⟨b, off, none⟩ ∧ P b ∧ b < w.heap.size ∧ RepL P w b off l) ∧ (bs ≠ [] → ∃ b off, Aa = some ⟨b, off, none⟩ ∧ P b ∧ b < w.heap.size ∧ RepA P w b off ops bs) ∧ ops.length = bs.length
def RepL (P : Nat → Prop) (w : World) (b : Nat) : Nat → List Ex → Prop
  | _, [] => True
  | off, e :: r => (∃ cs, cs.length = 7 ∧ CellsAt w b off cs ∧ RepE P w e cs) ∧ RepL P w b (off + 7) r
def RepA (P : Nat → Prop) (w : World) (b : Nat) : Nat → List (List UInt8 × List (List UInt8)) → List Ex → Prop
  | _, _, [] => True
  | off, ops, e :: r => (∃ op ns q A c cs, ops = (op, ns) :: q ∧ okS op ∧ (∀ x ∈ ns, okS x) ∧ ns.length ≤ c ∧ c ≤ maxLen ∧ cs.length = 7 ∧ CellsAt w b off (.string (strB op) :: .slice A ns.length c :: cs) ∧ NamesAt P w A ns ∧ RepE P w e cs ∧ RepA P w b (off + 9) q r)
end

/-- blocks of a kind hold what they held -/
def Same (P : Nat → Prop) (w w' : World) : Prop := w.heap.size ≤ w'.heap.size ∧ ∀ b, P b → b < w.heap.size → w'.heap[b]? = w.heap[b]?
theorem Same.cell {P : Nat → Prop} {w w' : World} (h : Same P w w') {b : Nat} (hp : P b) (hlt : b < w.heap.size) (o : Nat) : w'.cell? ⟨b, o, none⟩ = w.cell? ⟨b, o, none⟩ := by
  unfold World.cell?
  simp only [h.2 b hp hlt]
theorem Same.of_below {P : Nat → Prop} {w w' : World} (hb : Below w.heap.size w w') : Same P w w' := ⟨hb.size, fun b _ hlt => hb.block b hlt⟩
theorem Same.refl (P : Nat → Prop) (w : World) : Same P w w := ⟨Nat.le_refl _, fun _ _ _ => rfl⟩
theorem Same.trans {P : Nat → Prop} {a c d : World} (h : Same P a c) (k : Same P c d) : Same P a d :=
  ⟨Nat.le_trans h.1 k.1, fun b hp hlt => (k.2 b hp (Nat.lt_of_lt_of_le hlt h.1)).trans (h.2 b hp hlt)⟩
theorem NamesAt.keep {P : Nat → Prop} {w w' : World} {A : Option Addr} {L : List (List UInt8)} (h : NamesAt P w A L) (hs : Same P w w') : NamesAt P w' A L := fun h0 => by
  obtain ⟨b, off, e, hp, hlt, hc⟩ := h h0
  exact ⟨b, off, e, hp, Nat.lt_of_lt_of_le hlt hs.1, fun j l hj => (hs.cell hp hlt _).trans (hc j l hj)⟩
theorem NamesAt.weaken {P Q : Nat → Prop} {w : World} {A : Option Addr} {L : List (List UInt8)} (h : NamesAt P w A L) (hq : ∀ b, P b → Q b) : NamesAt Q w A L := fun h0 => by
  obtain ⟨b, off, e, hp, hlt, hc⟩ := h h0
  exact ⟨b, off, e, hq _ hp, hlt, hc⟩
theorem CellsAt.keep {P : Nat → Prop} {w w' : World} {b off : Nat} {xs : List Value} (h : CellsAt w b off xs) (hp : P b) (hlt : b < w.heap.size) (hs : Same P w w') : CellsAt w' b off xs :=
  fun i v hi => (hs.cell hp hlt _).trans (h i v hi)
mutual
theorem RepE.keep {P : Nat → Prop} {w w' : World} (hs : Same P w w') : ∀ {e : Ex} {cs : List Value}, RepE P w e cs → RepE P w' e cs
  | .mk k n s t ns l ops bs, cs, h => by
    obtain ⟨An, cn, Al, cl, Aa, ca, e, hf, hn, hl, ha, ho⟩ := h
    refine ⟨An, cn, Al, cl, Aa, ca, e, hf, hn.keep hs, fun h0 => ?_, fun h0 => ?_, ho⟩
    · obtain ⟨b, off, e, hp, hlt, hr⟩ := hl h0
      exact ⟨b, off, e, hp, Nat.lt_of_lt_of_le hlt hs.1, RepL.keep hs hp hlt hr⟩
    · obtain ⟨b, off, e, hp, hlt, hr⟩ := ha h0
      exact ⟨b, off, e, hp, Nat.lt_of_lt_of_le hlt hs.1, RepA.keep hs hp hlt hr⟩
theorem RepL.keep {P : Nat → Prop} {w w' : World} (hs : Same P w w') {b : Nat} (hp : P b) (hlt : b < w.heap.size) : ∀ {l : List Ex} {off : Nat}, RepL P w b off l → RepL P w' b off l
  | [], off, _ => trivial
  | e :: r, off, h => by
    obtain ⟨⟨cs, h7, hc, he⟩, hr⟩ := h
    exact ⟨⟨cs, h7, hc.keep hp hlt hs, RepE.keep hs he⟩, RepL.keep hs hp hlt hr⟩
theorem RepA.keep {P : Nat → Prop} {w w' : World} (hs : Same P w w') {b : Nat} (hp : P b) (hlt : b < w.heap.size) : ∀ {l : List Ex} {off : Nat} {ops : List (List UInt8 × List (List UInt8))}, RepA P w b off ops l → RepA P w' b off ops l
  | [], off, ops, _ => trivial
  | e :: r, off, ops, h => by
    obtain ⟨op, ns, q, A, c, cs, e1, h1, h2, h3, h4, h7, hc, hn, he, hr⟩ := h
    exact ⟨op, ns, q, A, c, cs, e1, h1, h2, h3, h4, h7, hc.keep hp hlt hs, hn.keep hs, RepE.keep hs he, RepA.keep hs hp hlt hr⟩
end
mutual
theorem RepE.weaken {P Q : Nat → Prop} {w : World} (hq : ∀ b, P b → Q b) : ∀ {e : Ex} {cs : List Value}, RepE P w e cs → RepE Q w e cs
  | .mk k n s t ns l ops bs, cs, h => by
    obtain ⟨An, cn, Al, cl, Aa, ca, e, hf, hn, hl, ha, ho⟩ := h
    refine ⟨An, cn, Al, cl, Aa, ca, e, hf, hn.weaken hq, fun h0 => ?_, fun h0 => ?_, ho⟩
    · obtain ⟨b, off, e, hp, hlt, hr⟩ := hl h0
      exact ⟨b, off, e, hq _ hp, hlt, RepL.weaken hq hr⟩
    · obtain ⟨b, off, e, hp, hlt, hr⟩ := ha h0
      exact ⟨b, off, e, hq _ hp, hlt, RepA.weaken hq hr⟩
theorem RepL.weaken {P Q : Nat → Prop} {w : World} (hq : ∀ b, P b → Q b) {b : Nat} : ∀ {l : List Ex} {off : Nat}, RepL P w b off l → RepL Q w b off l
  | [], off, _ => trivial
  | e :: r, off, h => by
    obtain ⟨⟨cs, h7, hc, he⟩, hr⟩ := h
    exact ⟨⟨cs, h7, hc, RepE.weaken hq he⟩, RepL.weaken hq hr⟩
theorem RepA.weaken {P Q : Nat → Prop} {w : World} (hq : ∀ b, P b → Q b) {b : Nat} : ∀ {l : List Ex} {off : Nat} {ops : List (List UInt8 × List (List UInt8))}, RepA P w b off ops l → RepA Q w b off ops l
  | [], off, ops, _ => trivial
  | e :: r, off, ops, h => by
    obtain ⟨op, ns, q, A, c, cs, e1, h1, h2, h3, h4, h7, hc, hn, he, hr⟩ := h
    exact ⟨op, ns, q, A, c, cs, e1, h1, h2, h3, h4, h7, hc, hn.weaken hq, RepE.weaken hq he, RepA.weaken hq hr⟩
end
theorem RepL.at {P : Nat → Prop} {w : World} {b : Nat} : ∀ {l : List Ex} {off j : Nat} {e : Ex}, RepL P w b off l → l[j]? = some e → ∃ cs, cs.length = 7 ∧ CellsAt w b (off + j * 7) cs ∧ RepE P w e cs
  | [], off, j, e, _, h => by simp at h
  | x :: r, off, 0, e, hr, h => by
    simp only [List.getElem?_cons_zero, Option.some.injEq] at h
    subst h
    simpa using hr.1
  | x :: r, off, j + 1, e, hr, h => by
    simp only [List.getElem?_cons_succ] at h
    have := RepL.at hr.2 h
    rwa [show off + 7 + j * 7 = off + (j + 1) * 7 by omega] at this
theorem RepL.of {P : Nat → Prop} {w : World} {b : Nat} : ∀ {l : List Ex} {off : Nat}, (∀ j e, l[j]? = some e → ∃ cs, cs.length = 7 ∧ CellsAt w b (off + j * 7) cs ∧ RepE P w e cs) → RepL P w b off l
  | [], off, _ => trivial
  | x :: r, off, h => by
    refine ⟨by simpa using h 0 x rfl, RepL.of fun j e hj => ?_⟩
    have := h (j + 1) e (by simpa using hj)
    rwa [show off + 7 + j * 7 = off + (j + 1) * 7 by omega]
/-- an arm: its head and its body -/
def ArmAt (P : Nat → Prop) (w : World) (b off : Nat) (o : List UInt8 × List (List UInt8)) (e : Ex) : Prop :=
  ∃ A c cs, okS o.1 ∧ (∀ x ∈ o.2, okS x) ∧ o.2.length ≤ c ∧ c ≤ maxLen ∧ cs.length = 7 ∧ CellsAt w b off (.string (strB o.1) :: .slice A o.2.length c :: cs) ∧ NamesAt P w A o.2 ∧ RepE P w e cs
theorem RepA.at {P : Nat → Prop} {w : World} {b : Nat} : ∀ {l : List Ex} {off j : Nat} {ops : List (List UInt8 × List (List UInt8))} {e : Ex}, RepA P w b off ops l → l[j]? = some e → ∃ o, ops[j]? = some o ∧ ArmAt P w b (off + j * 9) o e
  | [], off, j, ops, e, _, h => by simp at h
  | x :: r, off, 0, ops, e, hr, h => by
    simp only [List.getElem?_cons_zero, Option.some.injEq] at h
    subst h
    obtain ⟨op, ns, q, A, c, cs, rfl, h1, h2, h3, h4, h7, hc, hn, he, _⟩ := hr
    exact ⟨(op, ns), rfl, A, c, cs, h1, h2, h3, h4, h7, by simpa using hc, hn, he⟩
  | x :: r, off, j + 1, ops, e, hr, h => by
    simp only [List.getElem?_cons_succ] at h
    obtain ⟨op, ns, q, A, c, cs, rfl, h1, h2, h3, h4, h7, hc, hn, he, hq⟩ := hr
    obtain ⟨o, ho, ha⟩ := RepA.at hq h
    rw [show off + 9 + j * 9 = off + (j + 1) * 9 by omega] at ha
    exact ⟨o, by simpa using ho, ha⟩
theorem RepA.of {P : Nat → Prop} {w : World} {b : Nat} : ∀ {l : List Ex} {off : Nat} {ops : List (List UInt8 × List (List UInt8))}, ops.length = l.length → (∀ j e, l[j]? = some e → ∃ o, ops[j]? = some o ∧ ArmAt P w b (off + j * 9) o e) → RepA P w b off ops l
  | [], off, ops, _, _ => trivial
  | x :: r, off, [], hl, _ => by simp at hl
  | x :: r, off, (op, ns) :: q, hl, h => by
    obtain ⟨o, ho, A, c, cs, h1, h2, h3, h4, h7, hc, hn, he⟩ := h 0 x rfl
    simp only [List.getElem?_cons_zero, Option.some.injEq] at ho
    subst ho
    refine ⟨op, ns, q, A, c, cs, rfl, h1, h2, h3, h4, h7, by simpa using hc, hn, he, RepA.of (by simpa using hl) fun j e hj => ?_⟩
    obtain ⟨o, ho, ha⟩ := h (j + 1) e (by simpa using hj)
    rw [show off + (j + 1) * 9 = off + 9 + j * 9 by omega] at ha
    exact ⟨o, by simpa using ho, ha⟩

theorem Ex.ind {P : Ex → Prop} (h : ∀ e, (∀ x ∈ e.parts, P x) → P e) : ∀ e, P e := by
  have key : ∀ (n : Nat) (e : Ex), SizeOf.sizeOf e ≤ n → P e := by
    intro n
    induction n with
    | zero => intro e he; cases e; simp at he
    | succ n ih =>
      intro e he
      refine h e fun x hx => ih x ?_
      cases e with
      | mk k m s t ns l ops bs =>
        simp only [Ex.mk.sizeOf_spec] at he
        rcases List.mem_append.1 hx with hx | hx
        · have := List.sizeOf_lt_of_mem (show x ∈ l from hx); omega
        · have := List.sizeOf_lt_of_mem (show x ∈ bs from hx); omega
  exact fun e => key _ e (Nat.le_refl _)
end Go.Proofs.YtbmicnajedeenaaGreatDoor
/- An argument that is an expression, opened. -/
namespace Go.Proofs.YtbmicnajedeenaaGreatDoor
open Go.ChangeShapes Go.WideShapes Go.Deep Go.RowKit

theorem add_off (b off n : Nat) : (⟨b, off, none⟩ : Addr).add n = ⟨b, off + n, none⟩ := by
  unfold Addr.add
  split
  · rename_i h; subst h; rfl
  · rfl
theorem list_of {α : Type} (n : Nat) (P : Nat → α → Prop) (h : ∀ i, i < n → ∃ a, P i a) : ∃ l : List α, l.length = n ∧ ∀ i a, l[i]? = some a → P i a := by
  induction n with
  | zero => exact ⟨[], rfl, fun i a h => by simp at h⟩
  | succ n ih =>
    obtain ⟨l, hl, hp⟩ := ih fun i hi => h i (by omega)
    obtain ⟨a, ha⟩ := h n (by omega)
    refine ⟨l ++ [a], by simp [hl], fun i b hb => ?_⟩
    by_cases hi : i < n
    · rw [List.getElem?_append_left (by omega)] at hb; exact hp i b hb
    · rw [List.getElem?_append_right (by omega)] at hb
      have : i = n := by
        have := (List.getElem?_eq_some_iff.1 hb).1
        simp at this; omega
      subst this
      rw [hl] at hb
      simp at hb
      subst hb; exact ha
section
variable {H : Type} {enc : TypeId × Value → H} {W : World} {sp : Nat → Bool} {held : Bool}
/-- where the first cell reads, the address is plain -/
theorem plain_of {a : Addr} {v : Value} (h : W.cell? a = some v) : ∃ b off, a = ⟨b, off, none⟩ ∧ b < W.heap.size := by
  obtain ⟨b, off, spot⟩ := a
  unfold World.cell? at h
  split at h
  · rename_i hs
    split at h
    · cases h
    · rename_i h2
      obtain rfl : spot = none := by simpa using h2
      exact ⟨b, off, rfl, (Array.getElem?_eq_some_iff.1 hs).1⟩
  · cases h
theorem okS_of {s : ByteArray} (h : s.size ≤ maxLen) : okS s.data.toList := by
  unfold okS; rw [len_data]; exact h
theorem add_zero (a : Addr) : a.add 0 = a := by unfold Addr.add; rw [if_pos rfl]
theorem addr_of {a : Addr} {k : Nat} {cs : List Value} (h : W.cells? 0 a k = some cs) (hk : 0 < k) : ∃ b off, a = ⟨b, off, none⟩ ∧ b < W.heap.size := by
  obtain ⟨_, hl, hat⟩ := World.cells?_some h
  have h0 := hat 0 hk
  rw [add_zero, List.getElem?_eq_getElem (by omega)] at h0
  exact plain_of h0
theorem cells_at {b off k : Nat} {cs : List Value} (h : W.cells? 0 ⟨b, off, none⟩ k = some cs) : cs.length = k ∧ CellsAt W b off cs := by
  obtain ⟨_, hl, hat⟩ := World.cells?_some h
  refine ⟨hl, fun i v hi => ?_⟩
  have hlt := (List.getElem?_eq_some_iff.1 hi).1
  have := hat i (by omega)
  rw [add_off] at this
  rw [this]; exact hi
/-- a slice, its elements by their index, read with less -/
theorem slice_of {t e : TypeId} {k f : Nat} {cs : List Value} {x : DataW H × List MemPlace} (ht : Tryz.prog.underlying t = some (.slice e)) (hk : Tryz.prog.cellsOf e = k) (h : DataW.trod enc Tryz.prog W 0 sp held f t cs = some x) :
    cs = [.slice none 0 0] ∨ ∃ a len cap n, f = n + 1 ∧ cs = [.slice (some a) len cap] ∧ len ≤ cap ∧ cap ≤ maxLen ∧ ∀ i, i < len → ∃ cs' y, W.cells? 0 (a.add (i * k)) k = some cs' ∧ DataW.trod enc Tryz.prog W 0 sp held n e cs' = some y := by
  rcases DataW.trod_slice ht h with ⟨rfl, _⟩ | ⟨a, len, cap, elems, rest, n, hf, rfl, _, _, hl, hm, hlen, hel, _, _⟩
  · exact .inl rfl
  · refine .inr ⟨a, len, cap, n, hf, rfl, hl, hm, fun i hi => ?_⟩
    have := hel i hi
    rw [hk, List.getElem?_eq_getElem (by omega)] at this
    obtain ⟨cs', h1, h2⟩ := Option.bind_eq_some_iff.1 this
    exact ⟨cs', _, h1, h2⟩
/-- the same where something of each element is known -/
theorem rows_of {α : Type} {t e : TypeId} {k f : Nat} {cs : List Value} {x : DataW H × List MemPlace} (ht : Tryz.prog.underlying t = some (.slice e)) (hk : Tryz.prog.cellsOf e = k) (hk0 : 0 < k) (h : DataW.trod enc Tryz.prog W 0 sp held f t cs = some x)
    (P : List Value → α → Prop) (hP : ∀ n cs' y, n < f → cs'.length = k → DataW.trod enc Tryz.prog W 0 sp held n e cs' = some y → ∃ a, P cs' a) :
    ∃ A c, ∃ L : List α, cs = [.slice A L.length c] ∧ L.length ≤ c ∧ c ≤ maxLen ∧ (L ≠ [] → ∃ b off, A = some ⟨b, off, none⟩ ∧ b < W.heap.size ∧ ∀ j l, L[j]? = some l → ∃ cs', cs'.length = k ∧ CellsAt W b (off + j * k) cs' ∧ P cs' l) := by
  rcases slice_of ht hk h with rfl | ⟨a, len, cap, n, hf, rfl, hl, hm, hi⟩
  · exact ⟨none, 0, [], rfl, Nat.le_refl _, Nat.zero_le _, fun h => absurd rfl h⟩
  · by_cases h0 : len = 0
    · subst h0
      exact ⟨some a, cap, [], rfl, hl, hm, fun h => absurd rfl h⟩
    obtain ⟨cs0, _, hcs0, _⟩ := hi 0 (by omega)
    rw [Nat.zero_mul, add_zero] at hcs0
    obtain ⟨b, off, rfl, hlt⟩ := addr_of hcs0 hk0
    obtain ⟨L, hL, hp⟩ := list_of len (fun i (l : α) => ∃ cs', cs'.length = k ∧ CellsAt W b (off + i * k) cs' ∧ P cs' l) fun i hin => by
      obtain ⟨cs', y, hcs, htr⟩ := hi i (by omega)
      rw [add_off] at hcs
      have hc := cells_at hcs
      obtain ⟨l, hl⟩ := hP n cs' y (by omega) hc.1 htr
      exact ⟨l, cs', hc.1, hc.2, hl⟩
    subst hL
    exact ⟨some ⟨b, off, none⟩, cap, L, rfl, hl, hm, fun _ => ⟨b, off, rfl, hlt, hp⟩⟩
/-- a slice of strings -/
theorem open_names {cs : List Value} {x : DataW H × List MemPlace} {f : Nat} (h : DataW.trod enc Tryz.prog W 0 sp held f 26 cs = some x) :
    ∃ A c, ∃ L : List (List UInt8), cs = [.slice A L.length c] ∧ L.length ≤ c ∧ c ≤ maxLen ∧ NamesAt (fun _ => True) W A L ∧ ∀ s ∈ L, okS s := by
  obtain ⟨A, c, L, e, hl, hm, hr⟩ := rows_of Tryz.underlying26 (k := 1) (by kernel_rfl) (by omega) h (fun cs' (s : List UInt8) => okS s ∧ cs' = [.string (strB s)]) fun n cs' y _ _ ht => by
    obtain ⟨s, e, _, w1⟩ := DataW.trod_string Tryz.underlying9 ht
    exact ⟨s.data.toList, okS_of w1, e⟩
  refine ⟨A, c, L, e, hl, hm, fun h0 => ?_, fun s hs => ?_⟩
  · obtain ⟨b, off, ea, hlt, hp⟩ := hr h0
    refine ⟨b, off, ea, trivial, hlt, fun j l hj => ?_⟩
    obtain ⟨cs', _, hc, _, rfl⟩ := hp j l hj
    have := hc 0 _ rfl
    simpa using this
  · obtain ⟨b, off, ea, hlt, hp⟩ := hr (List.ne_nil_of_mem hs)
    obtain ⟨i, hil, rfl⟩ := List.getElem_of_mem hs
    obtain ⟨_, _, _, h, _⟩ := hp i _ (List.getElem?_eq_getElem hil)
    exact h

theorem okN_of {n : Int} (h : (Lit.int .i64 n).wf = true) : okN n := by
  simp only [Lit.wf, Bool.and_eq_true, decide_eq_true_eq] at h
  exact h
theorem int_of {t : TypeId} {f : Nat} {cs : List Value} {x : DataW H × List MemPlace} (ht : Tryz.prog.underlying t = some (.int .i64)) (h : DataW.trod enc Tryz.prog W 0 sp held f t cs = some x) : ∃ n, cs = [.int .i64 n] ∧ okN n := by
  obtain ⟨n, e, _, w⟩ := DataW.trod_int ht h
  exact ⟨n, e, okN_of w⟩
theorem str_of {f : Nat} {cs : List Value} {x : DataW H × List MemPlace} (h : DataW.trod enc Tryz.prog W 0 sp held f 9 cs = some x) : ∃ s, cs = [.string (strB s)] ∧ okS s := by
  obtain ⟨s, e, _, w⟩ := DataW.trod_string Tryz.underlying9 h
  exact ⟨s.data.toList, e, okS_of w⟩
/-- what an arm's cells are -/
def ArmIs (W : World) (cs : List Value) (o : List UInt8 × List (List UInt8)) (e : Ex) : Prop :=
  ∃ A c cs7, cs = .string (strB o.1) :: .slice A o.2.length c :: cs7 ∧ okS o.1 ∧ (∀ x ∈ o.2, okS x) ∧ o.2.length ≤ c ∧ c ≤ maxLen ∧ cs7.length = 7 ∧ NamesAt (fun _ => True) W A o.2 ∧ RepE (fun _ => True) W e cs7
set_option maxRecDepth 100000 in
theorem arm_step (f : Nat) (ih : ∀ n, n < f → ∀ {cs : List Value} {x : DataW H × List MemPlace}, cs.length = 7 → DataW.trod enc Tryz.prog W 0 sp held n 30 cs = some x → ∃ e, RepE (fun _ => True) W e cs)
    {cs : List Value} {x : DataW H × List MemPlace} (h9 : cs.length = 9) (h : DataW.trod enc Tryz.prog W 0 sp held f 83 cs = some x) : ∃ oe : (List UInt8 × List (List UInt8)) × Ex, ArmIs W cs oe.1 oe.2 := by
  obtain ⟨xs, m, hm, _, hl, hxl, hf⟩ := DataW.trod_struct Tryz.underlying83 h
  have hxl3 : xs.length = 3 := hxl
  have k9 : Tryz.prog.cellsOf 9 = 1 := by kernel_rfl
  have kN : Tryz.prog.cellsOf 26 = 1 := by kernel_rfl
  have kE : Tryz.prog.cellsOf 30 = 7 := by kernel_rfl
  match cs, h9, xs, hxl3 with
  | [c0, c1, d0, d1, d2, d3, d4, d5, d6], _, [y0, y1, y2], _ =>
    have f0 : DataW.trod enc Tryz.prog W 0 sp held m 9 [c0] = some y0 := by have := hf 0 _ rfl; simpa [k9] using this
    have f1 : DataW.trod enc Tryz.prog W 0 sp held m 26 [c1] = some y1 := by have := hf 1 _ rfl; simpa [kN] using this
    have f2 : DataW.trod enc Tryz.prog W 0 sp held m 30 [d0, d1, d2, d3, d4, d5, d6] = some y2 := by have := hf 2 _ rfl; simpa [kE] using this
    obtain ⟨op, e0, w0⟩ := str_of f0
    obtain ⟨A, c, L, e1, hl1, hl2, hn, hL⟩ := open_names f1
    obtain ⟨e, he⟩ := ih m (by omega) rfl f2
    simp only [List.cons.injEq, and_true] at e0 e1
    subst e0; subst e1
    exact ⟨((op, L), e), A, c, _, rfl, w0, hL, hl1, hl2, rfl, hn, he⟩
set_option maxRecDepth 100000 in
/-- seven cells that read as an expression -/
theorem open_ex (f : Nat) : ∀ {cs : List Value} {x : DataW H × List MemPlace}, cs.length = 7 → DataW.trod enc Tryz.prog W 0 sp held f 30 cs = some x → ∃ e, RepE (fun _ => True) W e cs := by
  induction f using Nat.strongRecOn with
  | ind f ih =>
    intro cs x h7 h
    obtain ⟨xs, m, hm, _, hl, hxl, hf⟩ := DataW.trod_struct Tryz.underlying30 h
    have hxl7 : xs.length = 7 := hxl
    have k0 : Tryz.prog.cellsOf 25 = 1 := by kernel_rfl
    have k3 : Tryz.prog.cellsOf 3 = 1 := by kernel_rfl
    have k9 : Tryz.prog.cellsOf 9 = 1 := by kernel_rfl
    have kN : Tryz.prog.cellsOf 26 = 1 := by kernel_rfl
    have kL : Tryz.prog.cellsOf 27 = 1 := by kernel_rfl
    have kA : Tryz.prog.cellsOf 28 = 1 := by kernel_rfl
    match cs, h7, xs, hxl7 with
    | [c0, c1, c2, c3, c4, c5, c6], _, [y0, y1, y2, y3, y4, y5, y6], _ =>
      have f0 : DataW.trod enc Tryz.prog W 0 sp held m 25 [c0] = some y0 := by have := hf 0 _ rfl; simpa [k0] using this
      have f1 : DataW.trod enc Tryz.prog W 0 sp held m 3 [c1] = some y1 := by have := hf 1 _ rfl; simpa [k3] using this
      have f2 : DataW.trod enc Tryz.prog W 0 sp held m 9 [c2] = some y2 := by have := hf 2 _ rfl; simpa [k9] using this
      have f3 : DataW.trod enc Tryz.prog W 0 sp held m 9 [c3] = some y3 := by have := hf 3 _ rfl; simpa [k9] using this
      have f4 : DataW.trod enc Tryz.prog W 0 sp held m 26 [c4] = some y4 := by have := hf 4 _ rfl; simpa [kN] using this
      have f5 : DataW.trod enc Tryz.prog W 0 sp held m 27 [c5] = some y5 := by have := hf 5 _ rfl; simpa [kL] using this
      have f6 : DataW.trod enc Tryz.prog W 0 sp held m 28 [c6] = some y6 := by have := hf 6 _ rfl; simpa [kA] using this
      obtain ⟨k, e0, w0⟩ := int_of Tryz.underlying25 f0
      obtain ⟨n, e1, w1⟩ := int_of Tryz.underlying3 f1
      obtain ⟨s, e2, w2⟩ := str_of f2
      obtain ⟨t, e3, w3⟩ := str_of f3
      obtain ⟨An, cn, ns, e4, hn1, hn2, hn, hN⟩ := open_names f4
      obtain ⟨Al, cl, l, e5, hl1, hl2, hL⟩ := rows_of Tryz.underlying27 (k := 7) (by kernel_rfl) (by omega) f5 (fun cs' e => RepE (fun _ => True) W e cs') fun n cs' y hlt h7 ht => ih n (by omega) h7 ht
      obtain ⟨Aa, ca, arms, e6, ha1, ha2, hA⟩ := rows_of Tryz.underlying28 (k := 9) (by kernel_rfl) (by omega) f6 (fun cs' (oe : (List UInt8 × List (List UInt8)) × Ex) => ArmIs W cs' oe.1 oe.2) fun n cs' y hlt h9 ht => arm_step n (fun n' hn' _ _ h7 h => ih n' (by omega) h7 h) h9 ht
      simp only [List.cons.injEq, and_true] at e0 e1 e2 e3 e4 e5 e6
      subst e0; subst e1; subst e2; subst e3; subst e4; subst e5; subst e6
      refine ⟨.mk k n s t ns l (arms.map (·.1)) (arms.map (·.2)), An, cn, Al, cl, Aa, ca, ?_, ?_, hn, fun h0 => ?_, fun h0 => ?_, by simp⟩
      · simp [exCells]
      · exact ⟨w0, w1, w2, w3, hN, ⟨hn1, hn2⟩, ⟨hl1, hl2⟩, ⟨by simpa using ha1, ha2⟩⟩
      · obtain ⟨b, off, e, hlt, hr⟩ := hL h0
        exact ⟨b, off, e, trivial, hlt, RepL.of hr⟩
      · obtain ⟨b, off, e, hlt, hr⟩ := hA (by simpa using h0)
        refine ⟨b, off, e, trivial, hlt, RepA.of (by simp) fun j e hj => ?_⟩
        rw [List.getElem?_map, Option.map_eq_some_iff] at hj
        obtain ⟨oe, ho, rfl⟩ := hj
        obtain ⟨cs', _, hc, A, c, cs7, rfl, h1, h2, h3, h4, h7, h8, h9⟩ := hr j oe ho
        exact ⟨oe.1, by rw [List.getElem?_map, ho]; rfl, A, c, cs7, h1, h2, h3, h4, h7, hc, h8, h9⟩
end
end Go.Proofs.YtbmicnajedeenaaGreatDoor
/- Great: whether an expression is too large for the statements. -/
namespace Go.Proofs.YtbmicnajedeenaaGreatDoor
open Go.RowKit

theorem strB_size (s : List UInt8) : (strB s).size = s.length := by rw [← len_data]; rfl
def longP (L : List (List UInt8)) : Bool := decide (50 < L.length) || L.any (fun s => decide (100 < s.length))

set_option maxRecDepth 100000 in
set_option maxHeartbeats 1000000 in
theorem long_any (P : Nat → Prop) (A : Option Addr) (c : Nat) (L : List (List UInt8)) (w : World) (hL : NamesAt P w A L) (hl : L.length ≤ maxLen) :
    Calls Tryz.prog 13 #[.slice A L.length c] w fun e w' => e = .returned (.bool (longP L)) ∧ w = w' := by
  have hl2 : (L.length : Int) ≤ 9223372036854775807 := by unfold maxLen at hl; omega
  clear hl
  by_cases h50 : 50 < L.length
  · have h50i : (50 : Int) < (L.length : Int) := by omega
    have HR := Lib.hid (show longP L = true by unfold longP; rw [decide_eq_true h50]; rfl)
    clear hL
    go_enter Tryz.func13, Tryz.ntmps13
    go_wp2_with fail
    go_ret
    exact ⟨by rw [HR.out]; rfl, rfl⟩
  · have h51 : (L.length : Int) ≤ 50 := by omega
    have HL := Lib.hid hL
    clear hL h50
    go_enter Tryz.func13, Tryz.ntmps13
    go_wp2_with fail
    go_loop [3] (fun i => ∃ k : Nat, k ≤ L.length ∧ i = .int .i64 (k : Int) ∧ Hid (∀ (j : Nat) (h : j < L.length), j < k → L[j].length ≤ 100)) (fun i => L.length - (intOf i).toNat)
    case atStart => exact ⟨0, by omega, rfl, fun j h h2 => by omega⟩
    case round =>
      obtain ⟨k, hk, rfl, HA⟩ := hrel
      by_cases hkl : k < L.length
      · obtain ⟨b, off, rfl, _, hlt, hc⟩ := HL.out (List.ne_nil_of_length_pos (by omega))
        have hcell := hc k L[k] (List.getElem?_eq_getElem hkl)
        clear hc
        obtain ⟨x, hx⟩ : ∃ x, x = strB L[k] := ⟨_, rfl⟩
        have HX : Hid (x.size = L[k].length) := by show _ = _; rw [hx, strB_size]
        rw [← hx] at hcell
        clear hx
        by_cases h1 : 100 < x.size
        · have h1i : (100 : Int) < (x.size : Int) := by omega
          have HR := Lib.hid (show longP L = true by
            unfold longP
            rw [Bool.or_eq_true, List.any_eq_true]
            exact .inr ⟨_, List.getElem_mem hkl, by rw [← HX.out]; exact decide_eq_true h1⟩)
          go_wp2_with fail
          go_ret
          exact ⟨by rw [HR.out]; rfl, rfl⟩
        · have h1i : (x.size : Int) ≤ 100 := by omega
          have HA2 : Hid (∀ (j : Nat) (h : j < L.length), j < k + 1 → L[j].length ≤ 100) := fun j h hj => by
            by_cases e : j = k
            · subst e; rw [← HX.out]; omega
            · exact HA.out j h (by omega)
          clear HA
          go_wp2_with fail
          go_round
          case rel => exact ⟨k + 1, by omega, by go_num, HA2⟩
          case measure => simp [intOf]; omega
      · have HR := Lib.hid (show longP L = false by
          unfold longP
          rw [decide_eq_false (by omega), Bool.false_or, Bool.eq_false_iff, ne_eq, List.any_eq_true]
          rintro ⟨s, hs, h⟩
          obtain ⟨j, hj, rfl⟩ := List.getElem_of_mem hs
          have := HA.out j hj (by omega)
          have := of_decide_eq_true h
          omega)
        clear HA
        go_wp2_with fail
        go_ret
        exact ⟨by rw [HR.out]; rfl, rfl⟩

mutual
/-- how many more nodes there may be; below 0: there are more -/
def leftP : Ex → Int → Int → Int
  | .mk _ _ s t ns l ops bs, nodes, d =>
    if d < 1 ∨ 100 < s.length ∨ 100 < t.length ∨ longP ns = true ∨ 50 < l.length ∨ 50 < bs.length then -1 else leftA ops bs (leftL l (nodes - 1) (d - 1)) (d - 1)
def leftL : List Ex → Int → Int → Int
  | [], nodes, _ => nodes
  | e :: r, nodes, d => if nodes < 0 then nodes else leftL r (leftP e nodes d) d
def leftA : List (List UInt8 × List (List UInt8)) → List Ex → Int → Int → Int
  | _, [], nodes, _ => nodes
  | [], _ :: _, nodes, _ => nodes
  | o :: q, e :: r, nodes, d => if nodes < 0 then nodes else if 100 < o.1.length ∨ longP o.2 = true then -1 else leftA q r (leftP e nodes d) d
end
theorem leftL_neg (l : List Ex) (nodes d : Int) (h : nodes < 0) : leftL l nodes d = nodes := by
  cases l with
  | nil => rfl
  | cons e r => rw [leftL, if_pos h]
theorem leftA_neg (ops) (l : List Ex) (nodes d : Int) (h : nodes < 0) : leftA ops l nodes d = nodes := by
  cases l with
  | nil => cases ops <;> rfl
  | cons e r =>
    cases ops with
    | nil => rfl
    | cons o q => rw [leftA, if_pos h]
mutual
theorem leftP_le : ∀ (e : Ex) (nodes d : Int), 0 ≤ nodes → leftP e nodes d ≤ nodes ∧ -1 ≤ leftP e nodes d
  | .mk k n s t ns l ops bs, nodes, d, h => by
    rw [leftP]
    split
    · omega
    · have h1 := leftL_le l (nodes - 1) (d - 1) (by omega)
      have h2 := leftA_le ops bs (leftL l (nodes - 1) (d - 1)) (d - 1) h1.2
      omega
theorem leftL_le : ∀ (l : List Ex) (nodes d : Int), -1 ≤ nodes → leftL l nodes d ≤ nodes ∧ -1 ≤ leftL l nodes d
  | [], nodes, d, h => by rw [leftL]; omega
  | e :: r, nodes, d, h => by
    rw [leftL]
    split
    · omega
    · have h1 := leftP_le e nodes d (by omega)
      have h2 := leftL_le r (leftP e nodes d) d h1.2
      omega
theorem leftA_le : ∀ (ops : List (List UInt8 × List (List UInt8))) (l : List Ex) (nodes d : Int), -1 ≤ nodes → leftA ops l nodes d ≤ nodes ∧ -1 ≤ leftA ops l nodes d
  | ops, [], nodes, d, h => by cases ops <;> (rw [leftA]; omega)
  | [], e :: r, nodes, d, h => by rw [leftA]; omega
  | o :: q, e :: r, nodes, d, h => by
    rw [leftA]
    split
    · omega
    · split
      · omega
      · have h1 := leftP_le e nodes d (by omega)
        have h2 := leftA_le q r (leftP e nodes d) d h1.2
        omega
end

theorem leftL_snoc : ∀ (l : List Ex) (e : Ex) (nodes d : Int), leftL (l ++ [e]) nodes d = if leftL l nodes d < 0 then leftL l nodes d else leftP e (leftL l nodes d) d
  | [], e, nodes, d => by simp only [List.nil_append, leftL]; rfl
  | x :: r, e, nodes, d => by
    rw [List.cons_append, leftL, leftL]
    by_cases h : nodes < 0
    · simp only [if_pos h]
    · simp only [if_neg h]
      exact leftL_snoc r e _ d
theorem leftA_snoc : ∀ (q : List (List UInt8 × List (List UInt8))) (l : List Ex) (o : List UInt8 × List (List UInt8)) (e : Ex) (nodes d : Int), q.length = l.length → (∀ x ∈ q, ¬ (100 < x.1.length ∨ longP x.2 = true)) →
    leftA (q ++ [o]) (l ++ [e]) nodes d = if leftA q l nodes d < 0 then leftA q l nodes d else if 100 < o.1.length ∨ longP o.2 = true then -1 else leftP e (leftA q l nodes d) d
  | [], [], o, e, nodes, d, _, _ => by simp only [List.nil_append, leftA]; rfl
  | [], _ :: _, _, _, _, _, h, _ => by simp at h
  | _ :: _, [], _, _, _, _, h, _ => by simp at h
  | p :: q, x :: r, o, e, nodes, d, hl, hq => by
    rw [List.cons_append, List.cons_append, leftA, leftA]
    have hp := hq p (by simp)
    by_cases h : nodes < 0
    · simp only [if_pos h]
    · simp only [if_neg h, if_neg hp]
      exact leftA_snoc q r o e _ d (by simpa using hl) fun x hx => hq x (by simp [hx])
/-- what an arm does to the count, from some arm on -/
theorem leftA_bad : ∀ (q : List (List UInt8 × List (List UInt8))) (l : List Ex) (k : Nat) (o : List UInt8 × List (List UInt8)) (nodes d : Int), q[k]? = some o → q.length = l.length → (∀ j x, j < k → q[j]? = some x → ¬ (100 < x.1.length ∨ longP x.2 = true)) →
    (100 < o.1.length ∨ longP o.2 = true) → 0 ≤ leftA (q.take k) (l.take k) nodes d → leftA q l nodes d = -1
  | [], l, k, o, nodes, d, h, _, _, _, _ => by simp at h
  | p :: q, [], k, o, nodes, d, _, hl, _, _, _ => by simp at hl
  | p :: q, x :: r, 0, o, nodes, d, h, _, _, hb, h0 => by
    simp only [List.getElem?_cons_zero, Option.some.injEq] at h
    subst h
    simp only [List.take_zero, leftA] at h0
    rw [leftA, if_neg (by omega), if_pos hb]
  | p :: q, x :: r, k + 1, o, nodes, d, h, hl, hg, hb, h0 => by
    have hp := hg 0 p (by omega) rfl
    simp only [List.take_succ_cons] at h0
    rw [leftA] at h0 ⊢
    by_cases hn : nodes < 0
    · rw [if_pos hn] at h0; omega
    · rw [if_neg hn, if_neg hp] at h0 ⊢
      exact leftA_bad q r k o _ d (by simpa using h) (by simpa using hl) (fun j x hj hx => hg (j + 1) x (by omega) (by simpa using hx)) hb h0

theorem leftL_app : ∀ (a b : List Ex) (nodes d : Int), leftL (a ++ b) nodes d = leftL b (leftL a nodes d) d
  | [], b, nodes, d => by rw [List.nil_append, leftL]
  | x :: r, b, nodes, d => by
    rw [List.cons_append, leftL, leftL]
    by_cases h : nodes < 0
    · simp only [if_pos h]; rw [leftL_neg _ _ _ h]
    · simp only [if_neg h]; exact leftL_app r b _ d
theorem leftL_end {l : List Ex} {j : Nat} {nodes d N : Int} (hN : N = leftL (l.take j) nodes d) (h : N < 0 ∨ l.length ≤ j) : N = leftL l nodes d := by
  rcases h with h | h
  · have := leftL_app (l.take j) (l.drop j) nodes d
    rw [List.take_append_drop, ← hN, leftL_neg _ _ _ h] at this
    exact this.symm
  · rw [hN, List.take_of_length_le h]
theorem leftL_step {l : List Ex} {j : Nat} {nodes d N : Int} {e : Ex} (hN : N = leftL (l.take j) nodes d) (h : 0 ≤ N) (he : l[j]? = some e) : leftP e N d = leftL (l.take (j + 1)) nodes d := by
  have hj := (List.getElem?_eq_some_iff.1 he).1
  rw [List.take_succ_eq_append_getElem hj, leftL_snoc, ← hN, if_neg (by omega)]
  rw [List.getElem?_eq_getElem hj, Option.some.injEq] at he
  rw [he]
def goodArms (q : List (List UInt8 × List (List UInt8))) (j : Nat) : Prop := ∀ i x, i < j → q[i]? = some x → ¬ (100 < x.1.length ∨ longP x.2 = true)
theorem leftA_app : ∀ (q : List (List UInt8 × List (List UInt8))) (l : List Ex) (j : Nat) (nodes d : Int), q.length = l.length → goodArms q j → leftA q l nodes d = leftA (q.drop j) (l.drop j) (leftA (q.take j) (l.take j) nodes d) d
  | [], [], j, nodes, d, _, _ => by simp [leftA]
  | [], _ :: _, _, _, _, h, _ => by simp at h
  | _ :: _, [], _, _, _, h, _ => by simp at h
  | p :: q, x :: r, 0, nodes, d, _, _ => by simp [leftA]
  | p :: q, x :: r, j + 1, nodes, d, hl, hg => by
    rw [List.take_succ_cons, List.take_succ_cons, List.drop_succ_cons, List.drop_succ_cons, leftA, leftA]
    have hp := hg 0 p (by omega) rfl
    by_cases h : nodes < 0
    · simp only [if_pos h]; rw [leftA_neg _ _ _ _ h]
    · simp only [if_neg h, if_neg hp]
      exact leftA_app q r j _ d (by simpa using hl) fun i x hi hx => hg (i + 1) x (by omega) (by simpa using hx)
theorem leftA_end {q : List (List UInt8 × List (List UInt8))} {l : List Ex} {j : Nat} {nodes d N : Int} (hl : q.length = l.length) (hg : goodArms q j) (hN : N = leftA (q.take j) (l.take j) nodes d) (h : N < 0 ∨ l.length ≤ j) : N = leftA q l nodes d := by
  rcases h with h | h
  · have := leftA_app q l j nodes d hl hg
    rw [← hN, leftA_neg _ _ _ _ h] at this
    exact this.symm
  · rw [hN, List.take_of_length_le h, List.take_of_length_le (by omega)]
theorem leftA_step {q : List (List UInt8 × List (List UInt8))} {l : List Ex} {j : Nat} {nodes d N : Int} {e : Ex} {o : List UInt8 × List (List UInt8)} (hl : q.length = l.length) (hg : goodArms q j) (hN : N = leftA (q.take j) (l.take j) nodes d) (h : 0 ≤ N) (he : l[j]? = some e) (ho : q[j]? = some o) (hb : ¬ (100 < o.1.length ∨ longP o.2 = true)) :
    leftP e N d = leftA (q.take (j + 1)) (l.take (j + 1)) nodes d := by
  have hj := (List.getElem?_eq_some_iff.1 he).1
  have hj2 := (List.getElem?_eq_some_iff.1 ho).1
  rw [List.take_succ_eq_append_getElem hj, List.take_succ_eq_append_getElem hj2, leftA_snoc _ _ _ _ _ _ (by simp; omega) (fun x hx => by
    obtain ⟨i, hi, rfl⟩ := List.getElem_of_mem hx
    rw [List.length_take] at hi
    rw [List.getElem_take]
    exact hg i _ (by omega) (List.getElem?_eq_getElem (by omega))), ← hN, if_neg (by omega)]
  rw [List.getElem?_eq_getElem hj, Option.some.injEq] at he
  rw [List.getElem?_eq_getElem hj2, Option.some.injEq] at ho
  rw [he, ho, if_neg hb]
theorem seven {cs : List Value} (h : cs.length = 7) : ∃ v0 v1 v2 v3 v4 v5 v6, cs = [v0, v1, v2, v3, v4, v5, v6] := by
  match cs, h with
  | [a, b, c, d, e, f, g], _ => exact ⟨a, b, c, d, e, f, g, rfl⟩
end Go.Proofs.YtbmicnajedeenaaGreatDoor
/- Great, walked. -/
namespace Go.Proofs.YtbmicnajedeenaaGreatDoor
open Go.RowKit

theorem leftP_stop {k n : Int} {s t : List UInt8} {ns : List (List UInt8)} {l bs : List Ex} {ops : List (List UInt8 × List (List UInt8))} {nodes d : Int}
    (h : d < 1 ∨ 100 < s.length ∨ 100 < t.length ∨ longP ns = true ∨ 50 < l.length ∨ 50 < bs.length) : leftP (.mk k n s t ns l ops bs) nodes d = -1 := by rw [leftP, if_pos h]
theorem leftP_go {k n : Int} {s t : List UInt8} {ns : List (List UInt8)} {l bs : List Ex} {ops : List (List UInt8 × List (List UInt8))} {nodes d : Int}
    (h : ¬ (d < 1 ∨ 100 < s.length ∨ 100 < t.length ∨ longP ns = true ∨ 50 < l.length ∨ 50 < bs.length)) : leftP (.mk k n s t ns l ops bs) nodes d = leftA ops bs (leftL l (nodes - 1) (d - 1)) (d - 1) := by rw [leftP, if_neg h]

set_option maxRecDepth 100000 in
set_option maxHeartbeats 2000000 in
/-- it stops at the node itself -/
theorem left_stop (P : Nat → Prop) (k n : Int) (s t : List UInt8) (ns : List (List UInt8)) (l bs : List Ex) (nodes d : Int) (An : Option Addr) (cn : Nat) (Al : Option Addr) (cl : Nat) (Aa : Option Addr) (ca : Nat) (w : World)
    (hf : Fits k n s t ns l.length bs.length cn cl ca) (hn : NamesAt P w An ns) (hnodes : 0 ≤ nodes ∧ nodes ≤ 4000) (hd : 0 ≤ d ∧ d ≤ 250)
    (h : d < 1 ∨ 100 < s.length ∨ 100 < t.length ∨ longP ns = true ∨ 50 < l.length ∨ 50 < bs.length) :
    Calls Tryz.prog 30 #[.agg #[.int .i64 k, .int .i64 n, .string (strB s), .string (strB t), .slice An ns.length cn, .slice Al l.length cl, .slice Aa bs.length ca], .int .i64 nodes, .int .i64 d] w fun e w' => e = .returned (.int .i64 (-1)) ∧ Below w.heap.size w w' := by
  have HS : Hid ((strB s).size = s.length) := strB_size s
  have HT : Hid ((strB t).size = t.length) := strB_size t
  obtain ⟨S, hS⟩ : ∃ S, S = strB s := ⟨_, rfl⟩
  obtain ⟨T, hT⟩ : ∃ T, T = strB t := ⟨_, rfl⟩
  rw [← hS] at HS ⊢
  rw [← hT] at HT ⊢
  have HL : ∀ b, longP ns = b → Hid (∀ w', NamesAt P w' An ns → Calls Tryz.prog 13 #[.slice An ns.length cn] w' fun e w2 => e = .returned (.bool b) ∧ w' = w2) := fun b hb w' h' => by
    have := long_any P An cn ns w' h' (Nat.le_trans hf.hcn.1 hf.hcn.2); rwa [hb] at this
  have HN : Hid (∀ X, NamesAt P (w.alloc X) An ns) := fun X => hn.keep (Same.of_below ((Below.refl _ _).alloc (Nat.le_refl _) _))
  obtain ⟨n1, n2⟩ := hnodes
  obtain ⟨d1, d2⟩ := hd
  have hl2 : (l.length : Int) ≤ 9223372036854775807 := by have := hf.hcl; unfold maxLen at this; omega
  have hb2 : (bs.length : Int) ≤ 9223372036854775807 := by have := hf.hca; unfold maxLen at this; omega
  clear hS hT hn hf
  by_cases h1 : d < 1
  · have b1 : decide (d < 1) = true := decide_eq_true h1
    clear h HL HN
    go_enter Tryz.func30, Tryz.ntmps30
    go_wp2_with fail
    go_ret
    exact ⟨rfl, (Below.refl _ _).alloc (Nat.le_refl _) _⟩
  have b1 : decide (d < 1) = false := decide_eq_false h1
  by_cases h2 : 100 < S.size
  · have b2 : decide ((100 : Int) < (S.size : Int)) = true := decide_eq_true (by omega)
    clear h HL HN h1
    go_enter Tryz.func30, Tryz.ntmps30
    go_wp2_with fail
    go_ret
    exact ⟨rfl, (Below.refl _ _).alloc (Nat.le_refl _) _⟩
  have b2 : decide ((100 : Int) < (S.size : Int)) = false := decide_eq_false (by omega)
  by_cases h3 : 100 < T.size
  · have b3 : decide ((100 : Int) < (T.size : Int)) = true := decide_eq_true (by omega)
    clear h HL HN h1
    go_enter Tryz.func30, Tryz.ntmps30
    go_wp2_with fail
    go_ret
    exact ⟨rfl, (Below.refl _ _).alloc (Nat.le_refl _) _⟩
  have b3 : decide ((100 : Int) < (T.size : Int)) = false := decide_eq_false (by omega)
  cases h4 : longP ns with
  | true =>
    have HL1 := HL true h4
    clear h HL h1 h4
    go_enter Tryz.func30, Tryz.ntmps30
    go_wp2_with (go_at_call 13; refine (HL1.out _ (HN.out _)).mono ?_; rintro e w' ⟨rfl, rfl⟩)
    go_ret
    exact ⟨rfl, (Below.refl _ _).alloc (Nat.le_refl _) _⟩
  | false =>
    have HL1 := HL false h4
    have h5 : 50 < l.length ∨ 50 < bs.length := by
      rw [h4] at h; rw [← HS.out, ← HT.out] at h
      rcases h with h | h | h | h | h
      · omega
      · omega
      · omega
      · cases h
      · exact h
    clear h HL h1 h4
    by_cases h6 : 50 < l.length
    · have b6 : decide ((50 : Int) < (l.length : Int)) = true := decide_eq_true (by omega)
      go_enter Tryz.func30, Tryz.ntmps30
      go_wp2_with (go_at_call 13; refine (HL1.out _ (HN.out _)).mono ?_; rintro e w' ⟨rfl, rfl⟩)
      go_ret
      exact ⟨rfl, (Below.refl _ _).alloc (Nat.le_refl _) _⟩
    · have b6 : decide ((50 : Int) < (l.length : Int)) = false := decide_eq_false (by omega)
      have b7 : decide ((50 : Int) < (bs.length : Int)) = true := decide_eq_true (by omega)
      go_enter Tryz.func30, Tryz.ntmps30
      go_wp2_with (go_at_call 13; refine (HL1.out _ (HN.out _)).mono ?_; rintro e w' ⟨rfl, rfl⟩)
      go_ret
      exact ⟨rfl, (Below.refl _ _).alloc (Nat.le_refl _) _⟩

/-- what left answers for one expression, whatever the world -/
def LeftSays (P : Nat → Prop) (e : Ex) : Prop := ∀ (v0 v1 v2 v3 v4 v5 v6 : Value) (nodes d : Int) (w : World), RepE P w e [v0, v1, v2, v3, v4, v5, v6] → 0 ≤ nodes → nodes ≤ 4000 → 0 ≤ d → d ≤ 250 →
  Calls Tryz.prog 30 #[.agg #[v0, v1, v2, v3, v4, v5, v6], .int .i64 nodes, .int .i64 d] w fun e' w' => e' = .returned (.int .i64 (leftP e nodes d)) ∧ Below w.heap.size w w'

set_option maxRecDepth 100000 in
set_option maxHeartbeats 4000000 in
theorem left_go (P : Nat → Prop) (k n : Int) (s t : List UInt8) (ns : List (List UInt8)) (l bs : List Ex) (ops : List (List UInt8 × List (List UInt8))) (nodes d : Int) (An : Option Addr) (cn : Nat) (Al : Option Addr) (cl : Nat) (Aa : Option Addr) (ca : Nat) (w : World)
    (hf : Fits k n s t ns l.length bs.length cn cl ca) (hn : NamesAt P w An ns)
    (hL : l ≠ [] → ∃ b off, Al = some ⟨b, off, none⟩ ∧ P b ∧ b < w.heap.size ∧ RepL P w b off l) (hA : bs ≠ [] → ∃ b off, Aa = some ⟨b, off, none⟩ ∧ P b ∧ b < w.heap.size ∧ RepA P w b off ops bs) (ho : ops.length = bs.length)
    (hnodes : 0 ≤ nodes ∧ nodes ≤ 4000) (hd : 0 ≤ d ∧ d ≤ 250)
    (h : ¬ (d < 1 ∨ 100 < s.length ∨ 100 < t.length ∨ longP ns = true ∨ 50 < l.length ∨ 50 < bs.length))
    (ihL : ∀ x ∈ l, LeftSays P x) (ihA : ∀ x ∈ bs, LeftSays P x) :
    Calls Tryz.prog 30 #[.agg #[.int .i64 k, .int .i64 n, .string (strB s), .string (strB t), .slice An ns.length cn, .slice Al l.length cl, .slice Aa bs.length ca], .int .i64 nodes, .int .i64 d] w fun e w' => e = .returned (.int .i64 (leftP (.mk k n s t ns l ops bs) nodes d)) ∧ Below w.heap.size w w' := by
  have HR := Lib.hid (leftP_go (k := k) (n := n) (ops := ops) (nodes := nodes) h)
  simp only [not_or, Nat.not_lt, Bool.not_eq_true, Int.not_lt] at h
  obtain ⟨h1, h2, h3, h4, h5, h6⟩ := h
  have HS : Hid ((strB s).size = s.length) := strB_size s
  have HT : Hid ((strB t).size = t.length) := strB_size t
  obtain ⟨S, hS⟩ : ∃ S, S = strB s := ⟨_, rfl⟩
  obtain ⟨T, hT⟩ : ∃ T, T = strB t := ⟨_, rfl⟩
  rw [← hS] at HS ⊢
  rw [← hT] at HT ⊢
  have HLg : Hid (∀ w', NamesAt P w' An ns → Calls Tryz.prog 13 #[.slice An ns.length cn] w' fun e w2 => e = .returned (.bool false) ∧ w' = w2) := fun w' h' => by
    have := long_any P An cn ns w' h' (Nat.le_trans hf.hcn.1 hf.hcn.2); rwa [h4] at this
  have HN : Hid (∀ X, NamesAt P (w.alloc X) An ns) := fun X => hn.keep (Same.of_below ((Below.refl _ _).alloc (Nat.le_refl _) _))
  obtain ⟨n1, n2⟩ := hnodes
  obtain ⟨_, d2⟩ := hd
  have b1 : decide (d < 1) = false := decide_eq_false (by omega)
  have b2 : decide ((100 : Int) < (S.size : Int)) = false := decide_eq_false (by rw [HS.out]; omega)
  have b3 : decide ((100 : Int) < (T.size : Int)) = false := decide_eq_false (by rw [HT.out]; omega)
  have b6 : decide ((50 : Int) < (l.length : Int)) = false := decide_eq_false (by omega)
  have b7 : decide ((50 : Int) < (bs.length : Int)) = false := decide_eq_false (by omega)
  have HL := Lib.hid hL
  have HA := Lib.hid hA
  have HO := Lib.hid ho
  have IHL := Lib.hid ihL
  have IHA := Lib.hid ihA
  obtain ⟨nl, hnl⟩ : ∃ nl, nl = l.length := ⟨_, rfl⟩
  obtain ⟨nb, hnb⟩ : ∃ nb, nb = bs.length := ⟨_, rfl⟩
  have HNL := Lib.hid hnl
  have HNB := Lib.hid hnb
  rw [← hnl] at h5 b6 ⊢
  rw [← hnb] at h6 b7 ⊢
  clear hS hT hn hf h2 h3 h4 hL hA ho ihL ihA hnl hnb
  go_enter Tryz.func30, Tryz.ntmps30
  go_wp2_with (go_at_call 13; refine (HLg.out _ (HN.out _)).mono ?_; rintro e w' ⟨rfl, rfl⟩)
  obtain ⟨w0, hw0⟩ : ∃ w0, w.alloc (Obj.cells #[.int .i64 k, .int .i64 n, .string S, .string T, .slice An ns.length cn, .slice Al nl cl, .slice Aa nb ca] 30) = w0 := ⟨_, rfl⟩
  have HB0 : Hid (Below w.heap.size w w0) := by rw [← hw0]; exact (Below.refl _ _).alloc (Nat.le_refl _) _
  have HC5 : Hid (w0.cell? ⟨w.heap.size, 5, none⟩ = some (.slice Al nl cl)) := by show _ = _; rw [← hw0]; rw [cell_of_row _ _ _ _ _ (0, 0) (heap_alloc_new w _)]; rfl
  have HC6 : Hid (w0.cell? ⟨w.heap.size, 6, none⟩ = some (.slice Aa nb ca)) := by show _ = _; rw [← hw0]; rw [cell_of_row _ _ _ _ _ (0, 0) (heap_alloc_new w _)]; rfl
  have hz : w.heap.size < w0.heap.size := by rw [← hw0]; simp
  rw [hw0]
  clear hw0
  go_loopw [1, 7] (fun v i wr => ∃ (j : Nat) (N : Int), j ≤ nl ∧ -1 ≤ N ∧ N ≤ 3999 ∧ i = .int .i64 (j : Int) ∧ v = .int .i64 N ∧ Hid (N = leftL (l.take j) (nodes - 1) (d - 1)) ∧ Hid (Below w0.heap.size w0 wr)) (fun _ i _ => nl - (intOf i).toNat)
  case atStart => exact ⟨0, nodes - 1, by omega, by omega, by omega, rfl, rfl, by show _ = _; rw [List.take_zero, leftL], Below.refl _ _⟩
  case round =>
    obtain ⟨j, N, hj, hN1, hN2, rfl, rfl, HNJ, HB⟩ := hrel
    have c5 : wr.cell? ⟨w.heap.size, 5, none⟩ = some (.slice Al nl cl) := (HB.out.cell (p := ⟨w.heap.size, 5, none⟩) hz).trans HC5.out
    have hgo : (j < nl ∧ 0 ≤ N) ∨ ((j < nl ∧ N < 0) ∨ nl ≤ j) := by omega
    rcases hgo with ⟨hjl, h0⟩ | hex
    · have g1 : decide (j < nl) = true := decide_eq_true hjl
      have g2 : decide ((0 : Int) ≤ N) = true := decide_eq_true h0
      have hjl' : j < l.length := by rw [← HNL.out]; exact hjl
      obtain ⟨b, off, rfl, hp, hlt, hr⟩ := HL.out (List.ne_nil_of_length_pos (by omega))
      obtain ⟨cs, h7, hc, he⟩ := RepL.at hr (List.getElem?_eq_getElem hjl')
      obtain ⟨v0, v1, v2, v3, v4, v5, v6, rfl⟩ := seven h7
      have hs : Same P w wr := Same.of_below (HB0.out.trans (HB.out.mono HB0.out.size))
      have hcw := hc.keep hp hlt hs
      have d0 := hcw 0 v0 rfl
      have d1 := hcw 1 v1 rfl
      have d2' := hcw 2 v2 rfl
      have d3 := hcw 3 v3 rfl
      have d4 := hcw 4 v4 rfl
      have d5 := hcw 5 v5 rfl
      have d6 := hcw 6 v6 rfl
      rw [Nat.add_zero] at d0
      have hle := leftP_le l[j] N (d - 1) h0
      obtain ⟨N', hN'⟩ : ∃ N', N' = leftP l[j] N (d - 1) := ⟨_, rfl⟩
      have HNN : Hid (N' = leftL (l.take (j + 1)) (nodes - 1) (d - 1)) := by
        show _ = _; rw [hN']; exact leftL_step HNJ.out h0 (List.getElem?_eq_getElem hjl')
      have HI : Hid (∀ wx, Same P wr wx → Calls Tryz.prog 30 #[.agg #[v0, v1, v2, v3, v4, v5, v6], .int .i64 N, .int .i64 (d - 1)] wx fun e' w' => e' = .returned (.int .i64 N') ∧ Below wx.heap.size wx w') := fun wx hx => by
        rw [hN']; exact IHL.out _ (List.getElem_mem hjl') v0 v1 v2 v3 v4 v5 v6 N (d - 1) wx ((he.keep hs).keep hx) h0 (by omega) (by omega) (by omega)
      rw [← hN'] at hle
      obtain ⟨hle1, hle2⟩ := hle
      have i0 : (0 : Int) ≤ (j : Int) := by omega
      have i1 : (j : Int) < (nl : Int) := by omega
      clear hcw hc hr he hs hN' hjl' hp hlt
      go_wp2_with (go_at_call 30; refine (HI.out _ (Same.refl _ _)).mono ?_; rintro e w' ⟨rfl, hb⟩; have HB2 : Hid (Below w0.heap.size w0 w') := HB.out.trans (hb.mono HB.out.size); clear hb)
      go_roundw
      case rel => exact ⟨j + 1, N', by omega, by omega, by omega, by go_num, rfl, HNN, HB2.out⟩
      case measure => simp [intOf]; omega
    · have HNX : Hid (N = leftL l (nodes - 1) (d - 1)) := leftL_end HNJ.out (by have := HNL.out; omega)
      clear HNJ
      have hb2 : ∃ p q : Bool, decide (j < nl) = p ∧ decide ((0 : Int) ≤ N) = q ∧ (p = false ∨ (p = true ∧ q = false)) := by
        rcases hex with ⟨h1, h2⟩ | h
        · exact ⟨true, false, decide_eq_true h1, decide_eq_false (by omega), .inr ⟨rfl, rfl⟩⟩
        · exact ⟨false, _, decide_eq_false (by omega), rfl, .inl rfl⟩
      clear hex
      obtain ⟨p, q, g1, g2, hpq⟩ := hb2
      have i0 : (0 : Int) ≤ (j : Int) := by omega
      rcases hpq with rfl | ⟨rfl, rfl⟩
      all_goals
        go_wp2_with fail
        obtain ⟨wa, rfl⟩ : ∃ wa : World, wa = wr := ⟨_, rfl⟩
        go_loopw [1, 8] (fun v i wr => ∃ (j : Nat) (M : Int), j ≤ nb ∧ -1 ≤ M ∧ M ≤ 3999 ∧ i = .int .i64 (j : Int) ∧ v = .int .i64 M ∧ Hid (goodArms ops j) ∧ Hid (M = leftA (ops.take j) (bs.take j) N (d - 1)) ∧ Hid (Below w0.heap.size w0 wr)) (fun _ i _ => nb - (intOf i).toNat)
        case atStart => exact ⟨0, N, by omega, by omega, by omega, rfl, rfl, fun i x h => by omega, by show _ = _; rw [List.take_zero, List.take_zero, leftA], HB.out⟩
        case round =>
          clear HB c5 g1 g2
          obtain ⟨j2, M, hj2, hM1, hM2, rfl, rfl, HG, HMJ, HB⟩ := hrel
          have c6 : wr.cell? ⟨w.heap.size, 6, none⟩ = some (.slice Aa nb ca) := (HB.out.cell (p := ⟨w.heap.size, 6, none⟩) hz).trans HC6.out
          have hgo : (j2 < nb ∧ 0 ≤ M) ∨ ((j2 < nb ∧ M < 0) ∨ nb ≤ j2) := by omega
          rcases hgo with ⟨hjb, h0⟩ | hex
          · have g1 : decide (j2 < nb) = true := decide_eq_true hjb
            have g2 : decide ((0 : Int) ≤ M) = true := decide_eq_true h0
            have hjb' : j2 < bs.length := by rw [← HNB.out]; exact hjb
            obtain ⟨b, off, rfl, hp, hlt, hr⟩ := HA.out (List.ne_nil_of_length_pos (by omega))
            obtain ⟨o, hoo, A, c, cs, ho1, ho2, ho3, ho4, h7, hc, hnm, he⟩ := RepA.at hr (List.getElem?_eq_getElem hjb')
            obtain ⟨v0, v1, v2, v3, v4, v5, v6, rfl⟩ := seven h7
            obtain ⟨op, ons⟩ := o
            simp only at ho1 ho2 ho3 hc hnm
            have hs : Same P w wr := Same.of_below (HB0.out.trans (HB.out.mono HB0.out.size))
            have hcw := hc.keep hp hlt hs
            have e0 := hcw 0 _ rfl
            have e1 := hcw 1 _ rfl
            have d0 := hcw 2 v0 rfl
            have d1 := hcw 3 v1 rfl
            have d2' := hcw 4 v2 rfl
            have d3 := hcw 5 v3 rfl
            have d4 := hcw 6 v4 rfl
            have d5 := hcw 7 v5 rfl
            have d6 := hcw 8 v6 rfl
            rw [Nat.add_zero] at e0
            obtain ⟨O, hO⟩ : ∃ O, O = strB op := ⟨_, rfl⟩
            have HOs : Hid (O.size = op.length) := by show _ = _; rw [hO, strB_size]
            rw [← hO] at e0
            have i0' : (0 : Int) ≤ (j2 : Int) := by omega
            have i1 : (j2 : Int) < (nb : Int) := by omega
            have HLO : ∀ bb, longP ons = bb → Hid (∀ wx, Same P wr wx → Calls Tryz.prog 13 #[.slice A ons.length c] wx fun e w2 => e = .returned (.bool bb) ∧ wx = w2) := fun bb hbb wx hx => by
              have := long_any P A c ons wx ((hnm.keep hs).keep hx) (Nat.le_trans ho3 ho4); rwa [hbb] at this
            by_cases hbad : 100 < op.length ∨ longP ons = true
            · have HRR := Lib.hid (show leftA ops bs N (d - 1) = -1 from leftA_bad ops bs j2 (op, ons) N (d - 1) hoo (by rw [HO.out]) HG.out hbad (by rw [← HMJ.out]; exact h0))
              by_cases hol : 100 < O.size
              · have b8 : decide ((100 : Int) < (O.size : Int)) = true := decide_eq_true (by omega)
                clear hcw hc hr he hs hjb' hp hlt hO HLO hoo hnm hbad
                go_wp2_with fail
                go_ret
                exact ⟨by rw [HR.out, ← HNX.out, HRR.out]; rfl, HB0.out.trans (HB.out.mono HB0.out.size)⟩
              · have b8 : decide ((100 : Int) < (O.size : Int)) = false := decide_eq_false (by omega)
                have HL1 := HLO true (by rw [← HOs.out] at hbad; rcases hbad with h | h; exact absurd h hol; exact h)
                clear hcw hc hr he hs hjb' hp hlt hO HLO hoo hnm hbad
                go_wp2_with (go_at_call 13; refine (HL1.out _ (Same.refl _ _)).mono ?_; rintro e w' ⟨rfl, rfl⟩)
                go_ret
                exact ⟨by rw [HR.out, ← HNX.out, HRR.out]; rfl, HB0.out.trans (HB.out.mono HB0.out.size)⟩
            · have b8 : decide ((100 : Int) < (O.size : Int)) = false := decide_eq_false (by rw [HOs.out]; omega)
              have HL1 := HLO false (by simp only [not_or, Bool.not_eq_true] at hbad; exact hbad.2)
              have hle := leftP_le bs[j2] M (d - 1) h0
              obtain ⟨M', hM'⟩ : ∃ M', M' = leftP bs[j2] M (d - 1) := ⟨_, rfl⟩
              have HMM : Hid (M' = leftA (ops.take (j2 + 1)) (bs.take (j2 + 1)) N (d - 1)) := by
                show _ = _; rw [hM']; exact leftA_step HO.out HG.out HMJ.out h0 (List.getElem?_eq_getElem hjb') hoo hbad
              have HG2 : Hid (goodArms ops (j2 + 1)) := fun i x hi hx => by
                by_cases e : i = j2
                · subst e; rw [hoo, Option.some.injEq] at hx; subst hx; exact hbad
                · exact HG.out i x (by omega) hx
              have HI : Hid (∀ wx, Same P wr wx → Calls Tryz.prog 30 #[.agg #[v0, v1, v2, v3, v4, v5, v6], .int .i64 M, .int .i64 (d - 1)] wx fun e' w' => e' = .returned (.int .i64 M') ∧ Below wx.heap.size wx w') := fun wx hx => by
                rw [hM']; exact IHA.out _ (List.getElem_mem hjb') v0 v1 v2 v3 v4 v5 v6 M (d - 1) wx ((he.keep hs).keep hx) h0 (by omega) (by omega) (by omega)
              rw [← hM'] at hle
              obtain ⟨hle1, hle2⟩ := hle
              clear hcw hc hr he hs hM' hjb' hp hlt hO HLO hoo hnm hbad
              go_wp2_with (first | (go_at_call 13; refine (HL1.out _ (Same.refl _ _)).mono ?_; rintro e w' ⟨rfl, rfl⟩) | (go_at_call 30; refine (HI.out _ (Same.refl _ _)).mono ?_; rintro e w' ⟨rfl, hb⟩; have HB2 : Hid (Below w0.heap.size w0 w') := HB.out.trans (hb.mono HB.out.size); clear hb))
              go_roundw
              case rel => exact ⟨j2 + 1, M', by omega, by omega, by omega, by go_num, rfl, HG2, HMM, HB2.out⟩
              case measure => simp [intOf]; omega
          · have HMX : Hid (M = leftA ops bs N (d - 1)) := leftA_end HO.out HG.out HMJ.out (by have := HNB.out; omega)
            clear HMJ
            have hb2 : ∃ p q : Bool, decide (j2 < nb) = p ∧ decide ((0 : Int) ≤ M) = q ∧ (p = false ∨ (p = true ∧ q = false)) := by
              rcases hex with ⟨h1, h2⟩ | h
              · exact ⟨true, false, decide_eq_true h1, decide_eq_false (by omega), .inr ⟨rfl, rfl⟩⟩
              · exact ⟨false, _, decide_eq_false (by omega), rfl, .inl rfl⟩
            clear hex
            obtain ⟨p, q, g1, g2, hpq⟩ := hb2
            rcases hpq with rfl | ⟨rfl, rfl⟩
            all_goals
              go_wp2_with fail
              go_ret
              exact ⟨by rw [HR.out, ← HNX.out, ← HMX.out]; rfl, HB0.out.trans (HB.out.mono HB0.out.size)⟩

theorem left_any (P : Nat → Prop) : ∀ e, LeftSays P e := by
  -- the walk of function 30
  refine Ex.ind fun e ih => ?_
  cases e with
  | mk k n s t ns l ops bs =>
    intro v0 v1 v2 v3 v4 v5 v6 nodes d w hr h1 h2 h3 h4
    obtain ⟨An, cn, Al, cl, Aa, ca, he, hf, hn, hL, hA, ho⟩ := hr
    simp only [exCells, List.cons.injEq, and_true] at he
    obtain ⟨rfl, rfl, rfl, rfl, rfl, rfl, rfl⟩ := he
    by_cases h : d < 1 ∨ 100 < s.length ∨ 100 < t.length ∨ longP ns = true ∨ 50 < l.length ∨ 50 < bs.length
    · rw [leftP_stop h]
      exact left_stop P k n s t ns l bs nodes d An cn Al cl Aa ca w hf hn ⟨h1, h2⟩ ⟨h3, h4⟩ h
    · exact left_go P k n s t ns l bs ops nodes d An cn Al cl Aa ca w hf hn hL hA ho ⟨h1, h2⟩ ⟨h3, h4⟩ h (fun x hx => ih x (List.mem_append_left _ hx)) (fun x hx => ih x (List.mem_append_right _ hx))

/-- whether an expression is too large -/
def great (e : Ex) : Bool := decide (leftP e 4000 250 < 0)
set_option maxRecDepth 100000 in
set_option maxHeartbeats 1000000 in
theorem Great_any (P : Nat → Prop) (e : Ex) (v0 v1 v2 v3 v4 v5 v6 : Value) (w : World) (hr : RepE P w e [v0, v1, v2, v3, v4, v5, v6]) :
    Calls Tryz.prog 12 #[.agg #[v0, v1, v2, v3, v4, v5, v6]] w fun e' w' => e' = .returned (.bool (great e)) ∧ Below w.heap.size w w' := by
  obtain ⟨N, hN⟩ : ∃ N, N = leftP e 4000 250 := ⟨_, rfl⟩
  have HC : Hid (∀ X, Calls Tryz.prog 30 #[.agg #[v0, v1, v2, v3, v4, v5, v6], .int .i64 4000, .int .i64 250] (w.alloc X) fun e' w' => e' = .returned (.int .i64 N) ∧ Below (w.alloc X).heap.size (w.alloc X) w') := fun X => by
    rw [hN]
    exact left_any P e v0 v1 v2 v3 v4 v5 v6 4000 250 _ (hr.keep (Same.of_below ((Below.refl _ _).alloc (Nat.le_refl _) _))) (by omega) (by omega) (by omega) (by omega)
  have HG : ∀ b, decide (N < 0) = b → Hid (great e = b) := fun b hb => by show _ = _; unfold great; rw [← hN, hb]
  clear hr
  cases hb : decide (N < 0)
  all_goals
    have HGB := HG _ hb
    clear HG hN
    go_enter Tryz.func12, Tryz.ntmps12
    go_wp2_with (go_at_call 30; refine (HC.out _).mono ?_; rintro e w' ⟨rfl, hb2⟩; have HB2 : Hid (Below w.heap.size w w') := ((Below.refl _ _).alloc (Nat.le_refl _) _).trans (hb2.mono (by simp)); clear hb2)
    go_ret
    exact ⟨by rw [HGB.out]; rfl, HB2.out⟩
end Go.Proofs.YtbmicnajedeenaaGreatDoor
/- The parser's reader: peek, skip, need, token, lower. -/
namespace Go.Proofs.YtbmicnajedeenaaGreatDoor
open Go.RowKit

/-- a token as it lies in memory -/
structure Rt where
  k : Int
  s : List UInt8
  n : Int
  p : Int
def Rt.cells (t : Rt) : List Value := [.int .i64 t.k, .string (strB t.s), .int .i64 t.n, .int .i64 t.p]
/-- a parser lies in block b; its tokens lie in block g -/
structure PS (w : World) (b g go c : Nat) (ts : List Rt) (nx dp : Nat) : Prop where
  blk : w.heap[b]? = some (.cells #[.slice (some ⟨g, go, none⟩) ts.length c, .int .i64 nx, .int .i64 dp, .bool false] 151 (0, 0))
  ne : g ≠ b
  lt : g < w.heap.size
  tok : ∀ (j : Nat) (t : Rt), ts[j]? = some t → CellsAt w g (go + j * 4) t.cells
section
variable {w w' : World} {b g go c : Nat} {ts : List Rt} {nx dp : Nat}
theorem PS.blt (h : PS w b g go c ts nx dp) : b < w.heap.size := (Array.getElem?_eq_some_iff.1 h.blk).1
theorem PS.c0 (h : PS w b g go c ts nx dp) : w.cell? ⟨b, 0, none⟩ = some (.slice (some ⟨g, go, none⟩) ts.length c) := cell_of_row w b 0 _ _ (0, 0) h.blk
theorem PS.c1 (h : PS w b g go c ts nx dp) : w.cell? ⟨b, 1, none⟩ = some (.int .i64 nx) := cell_of_row w b 1 _ _ (0, 0) h.blk
theorem PS.c2 (h : PS w b g go c ts nx dp) : w.cell? ⟨b, 2, none⟩ = some (.int .i64 dp) := cell_of_row w b 2 _ _ (0, 0) h.blk
theorem PS.fr (h : PS w b g go c ts nx dp) (i : Nat) : w.frozen? ⟨b, i, none⟩ = false := by
  have := h.blk; simp [World.frozen?, this]
theorem cell_grown {row : Option Nat} (hg : w.grownBy w' row) {x o : Nat} (hx : x < w.heap.size) (hr : some x ≠ row) : w'.cell? ⟨x, o, none⟩ = w.cell? ⟨x, o, none⟩ := by
  unfold World.cell?; simp only [hg.block x hx hr]
theorem PS.kept (h : PS w b g go c ts nx dp) {row : Option Nat} (hg : w.grownBy w' row) (h1 : some b ≠ row) (h2 : some g ≠ row) : PS w' b g go c ts nx dp :=
  ⟨(hg.block b h.blt h1).trans h.blk, h.ne, Nat.lt_of_lt_of_le h.lt hg.size, fun j t hj i v hi => (cell_grown hg h.lt h2).trans (h.tok j t hj i v hi)⟩
theorem PS.below (h : PS w b g go c ts nx dp) (hb : Below w.heap.size w w') : PS w' b g go c ts nx dp := h.kept (grown_below hb none) (by simp) (by simp)
theorem PS.drewN (h : PS w b g go c ts nx dp) (n : Nat) : PS (w.drewN n) b g go c ts nx dp := h.kept (grown_drewN w n none) (by simp) (by simp)
theorem PS.set1 (h : PS w b g go c ts nx dp) (m : Nat) : PS (w.setCell ⟨b, 1, none⟩ (.int .i64 m)) b g go c ts m dp := by
  refine ⟨?_, h.ne, by simp [World.setCell]; exact h.lt, fun j t hj i v hi => ?_⟩
  · have := h.blk; simp [World.setCell, Array.getElem?_modify, this]
  · exact (cell_grown (grown_set w ⟨b, 1, none⟩ _) h.lt (by simp [h.ne])).trans (h.tok j t hj i v hi)
theorem PS.set2 (h : PS w b g go c ts nx dp) (m : Nat) : PS (w.setCell ⟨b, 2, none⟩ (.int .i64 m)) b g go c ts nx m := by
  refine ⟨?_, h.ne, by simp [World.setCell]; exact h.lt, fun j t hj i v hi => ?_⟩
  · have := h.blk; simp [World.setCell, Array.getElem?_modify, this]
  · exact (cell_grown (grown_set w ⟨b, 2, none⟩ _) h.lt (by simp [h.ne])).trans (h.tok j t hj i v hi)
end
/-- what a method of the parser does: the parser stands elsewhere; nothing else that lay has changed -/
def Went (w w' : World) (b g go c : Nat) (ts : List Rt) (nx dp : Nat) : Prop := PS w' b g go c ts nx dp ∧ w.grownBy w' (some b)

set_option maxRecDepth 100000 in
set_option maxHeartbeats 400000 in
theorem peek_any (b g go c : Nat) (ts : List Rt) (nx dp : Nat) (t : Rt) (w : World) (h : PS w b g go c ts nx dp) (ht : ts[nx]? = some t) :
    Calls Tryz.prog 83 #[.pointer (some ⟨b, 0, none⟩)] w fun e w' => e = .returned (.agg #[.int .i64 t.k, .string (strB t.s), .int .i64 t.n, .int .i64 t.p]) ∧ Below w.heap.size w w' := by
  have c0 := h.c0
  have c1 := h.c1
  have hn := (List.getElem?_eq_some_iff.1 ht).1
  have hg := h.lt
  have d0 := h.tok nx t ht 0 _ rfl
  have d1 := h.tok nx t ht 1 _ rfl
  have d2 := h.tok nx t ht 2 _ rfl
  have d3 := h.tok nx t ht 3 _ rfl
  rw [Nat.add_zero] at d0
  have i0 : (0 : Int) ≤ (nx : Int) := by omega
  have i1 : (nx : Int) < (ts.length : Int) := by omega
  have hb := h.blt
  have HZ : Hid (Below w.heap.size w w) := Below.refl _ _
  clear ht h hn
  obtain ⟨tk, tss, tn, tp⟩ := t
  obtain ⟨S, hS⟩ : ∃ S, S = strB tss := ⟨_, rfl⟩
  simp only at d0 d1 d2 d3 ⊢
  rw [← hS] at d1 ⊢
  clear hS
  go_enter Tryz.func83, Tryz.ntmps83
  go_wp2
  go_region
  go_wp2
  exact bodyPost_ret (v := .agg #[.int .i64 tk, .string S, .int .i64 tn, .int .i64 tp]) (by simp [results, Tryz.results83, go_sem]) rfl ⟨rfl, ((Below.refl _ _).alloc (Nat.le_refl _) _).drew⟩

def failV : Value := .iface 35 (.int .i64 2)
/-- how the parser is left at an error -/
def failE : Ending := .panicked [{ v := failV, recovered := false }]
set_option maxHeartbeats 400000 in
theorem fail_any (v : Value) (w : World) : Calls Tryz.prog 120 #[v] w fun e w' => e = failE ∧ w = w' := by
  go_enter Tryz.func120, Tryz.ntmps120
  go_wp2
  exact ⟨rfl, rfl, rfl⟩

theorem tfield0 (x0 x1 x2 x3 : Value) (w : World) : (Instr.field 146 (.agg #[x0, x1, x2, x3]) 0).run Tryz.prog w = .ok x0 w := by kernel_rfl
theorem tfield1 (x0 x1 x2 x3 : Value) (w : World) : (Instr.field 146 (.agg #[x0, x1, x2, x3]) 1).run Tryz.prog w = .ok x1 w := by kernel_rfl
theorem tfield2 (x0 x1 x2 x3 : Value) (w : World) : (Instr.field 146 (.agg #[x0, x1, x2, x3]) 2).run Tryz.prog w = .ok x2 w := by kernel_rfl
theorem tfield3 (x0 x1 x2 x3 : Value) (w : World) : (Instr.field 146 (.agg #[x0, x1, x2, x3]) 3).run Tryz.prog w = .ok x3 w := by kernel_rfl
/-- a token's string is another one, or this one -/
theorem strB_beq (a : List UInt8) (s : ByteArray) : ((strB a).toList == s.toList) = (a == s.data.toList) := by rw [ByteArray.toList_eq, ByteArray.toList_eq, data_strB]

set_option maxRecDepth 100000 in
set_option maxHeartbeats 400000 in
theorem skip_no (b g go c : Nat) (ts : List Rt) (nx dp : Nat) (t : Rt) (s : ByteArray) (w : World) (h : PS w b g go c ts nx dp) (ht : ts[nx]? = some t) (hs : t.s ≠ s.data.toList) :
    Calls Tryz.prog 148 #[.pointer (some ⟨b, 0, none⟩), .string s] w fun e w' => e = .returned (.bool false) ∧ Below w.heap.size w w' := by
  have HP := Lib.hid (peek_any b g go c ts nx dp t w h ht)
  have hb : (!(((strB t.s).toList == s.toList))) = true := by rw [strB_beq]; simpa using hs
  have hb2 : ((strB t.s).toList == s.toList) = false := by rw [strB_beq]; simpa using hs
  clear h ht hs
  obtain ⟨tk, tss, tn, tp⟩ := t
  obtain ⟨S, hS⟩ : ∃ S, S = strB tss := ⟨_, rfl⟩
  simp only at HP hb hb2
  rw [← hS] at HP hb hb2
  clear hS
  have fl1 := tfield1
  go_enter Tryz.func148, Tryz.ntmps148
  go_wp2_with (go_at_call 83; refine (HP.out).mono ?_; rintro e w' ⟨rfl, hb⟩; have HB := Lib.hid hb; clear hb)
  go_ret
  exact ⟨rfl, HB.out⟩
set_option maxRecDepth 100000 in
set_option maxHeartbeats 400000 in
theorem skip_yes (b g go c : Nat) (ts : List Rt) (nx dp : Nat) (t : Rt) (s : ByteArray) (w : World) (h : PS w b g go c ts nx dp) (ht : ts[nx]? = some t) (hs : t.s = s.data.toList) (hlen : ts.length ≤ 100000) :
    Calls Tryz.prog 148 #[.pointer (some ⟨b, 0, none⟩), .string s] w fun e w' => e = .returned (.bool true) ∧ Went w w' b g go c ts (nx + 1) dp := by
  have HP := Lib.hid (peek_any b g go c ts nx dp t w h ht)
  have H := Lib.hid h
  have hn := (List.getElem?_eq_some_iff.1 ht).1
  have hb2 : ((strB t.s).toList == s.toList) = true := by rw [strB_beq]; simpa using hs
  have hbl := h.blt
  clear h ht hs
  obtain ⟨tk, tss, tn, tp⟩ := t
  obtain ⟨S, hS⟩ : ∃ S, S = strB tss := ⟨_, rfl⟩
  simp only at HP hb2
  rw [← hS] at HP hb2
  clear hS
  have fl1 := tfield1
  go_enter Tryz.func148, Tryz.ntmps148
  go_wp2_with (go_at_call 83; refine (HP.out).mono ?_; rintro e w' ⟨rfl, hb⟩; have HB := Lib.hid hb; have HQ := Lib.hid (H.out.below hb); have c1 := HQ.out.c1; have f1 := HQ.out.fr 1; clear hb)
  go_ret
  refine ⟨rfl, ?_, grown_trans (grown_below HB.out _) (grown_set _ ⟨b, 1, none⟩ _)⟩
  have := HQ.out.set1 (nx + 1)
  rw [Int.natCast_add] at this
  exact this

theorem grown_new {w W : World} {row : Option Nat} (h : w.grownBy W row) {x o : Nat} (hp : w.heap.size ≤ x) (v : Value) : w.grownBy (W.setCell ⟨x, o, none⟩ v) row :=
  ⟨h.os, h.tape, h.output, by simp [World.setCell]; exact h.size, fun k hk hr => (Below.heap_setCell W ⟨x, o, none⟩ v k (fun e => by simp only at e; omega)).trans (h.block k hk hr)⟩
theorem grown_all {w W : World} {row : Option Nat} (h : w.grownBy W row) {x : Nat} (hp : w.heap.size ≤ x) (v0 v1 v2 v3 : Value) : w.grownBy ((((W.setCell ⟨x, 0, none⟩ v0).setCell ⟨x, 1, none⟩ v1).setCell ⟨x, 2, none⟩ v2).setCell ⟨x, 3, none⟩ v3) row :=
  grown_new (grown_new (grown_new (grown_new h hp _) hp _) hp _) hp _
theorem size_set (W : World) (p : Addr) (v : Value) : (W.setCell p v).heap.size = W.heap.size := by simp [World.setCell]
section
variable {w : World} {b g go c : Nat} {ts : List Rt} {nx dp : Nat}
theorem PS.other (h : PS w b g go c ts nx dp) {x o : Nat} (h1 : b ≠ x) (h2 : g ≠ x) (v : Value) : PS (w.setCell ⟨x, o, none⟩ v) b g go c ts nx dp := h.kept (grown_set w ⟨x, o, none⟩ v) (by simpa using h1) (by simpa using h2)
theorem PS.all (h : PS w b g go c ts nx dp) {x : Nat} (h1 : b ≠ x) (h2 : g ≠ x) (v0 v1 v2 v3 : Value) : PS ((((w.setCell ⟨x, 0, none⟩ v0).setCell ⟨x, 1, none⟩ v1).setCell ⟨x, 2, none⟩ v2).setCell ⟨x, 3, none⟩ v3) b g go c ts nx dp :=
  (((h.other h1 h2 v0).other h1 h2 v1).other h1 h2 v2).other h1 h2 v3
end
theorem resToken {tmps : Array Value} {w : World} {g : Nat} {k n pos : Int} {s : ByteArray} (h2 : tmps.getD 4 undef = .pointer (some ⟨g, 0, none⟩)) (h : TB w g k s n pos) :
    (results Tryz.f119 tmps).run Tryz.prog w = .ok (.agg #[.int .i64 k, .string s, .int .i64 n, .int .i64 pos]) w := by
  have c0 := h.c0
  have c1 := h.c1
  have c2 := h.c2
  have c3 := h.c3
  have h2' : tmps[4]?.getD undef = .pointer (some ⟨g, 0, none⟩) := by simpa using h2
  simp [results, Tryz.results119, go_sem, h2', c0, c1, c2, c3]

set_option maxRecDepth 100000 in
set_option maxHeartbeats 1000000 in
theorem token_ok (b g go c : Nat) (ts : List Rt) (nx dp : Nat) (t : Rt) (w : World) (h : PS w b g go c ts nx dp) (ht : ts[nx]? = some t) (hlen : ts.length ≤ 100000) :
    Calls Tryz.prog 119 #[.pointer (some ⟨b, 0, none⟩), .int .i64 t.k] w fun e w' => e = .returned (.agg #[.int .i64 t.k, .string (strB t.s), .int .i64 t.n, .int .i64 t.p]) ∧ Went w w' b g go c ts (nx + 1) dp := by
  have HP := Lib.hid (fun w h => peek_any b g go c ts nx dp t w h ht)
  have H := Lib.hid h
  have hn := (List.getElem?_eq_some_iff.1 ht).1
  have hbl := h.blt
  have hgl := h.lt
  obtain ⟨tk, tss, tn, tp⟩ := t
  obtain ⟨S, hS⟩ : ∃ S, S = strB tss := ⟨_, rfl⟩
  simp only at HP ⊢
  rw [← hS] at HP ⊢
  have HT0 := Lib.hid (TB.new w 0 ⟨#[]⟩ 0 0)
  have H0 : Hid (PS (w.alloc (.cells #[.int .i64 0, .string ⟨#[]⟩, .int .i64 0, .int .i64 0] 146)) b g go c ts nx dp) := h.below ((Below.refl _ _).alloc (Nat.le_refl _) _)
  have hne : (tk != tk) = false := by simp
  have q1 : ¬ w.heap.size = b := by omega
  have q2 : ¬ b = w.heap.size := by omega
  clear hS h ht
  go_enter Tryz.func119, Tryz.ntmps119
  go_wp2_with (go_at_call 83; refine (HP.out _ H0.out).mono ?_; rintro e w1 ⟨rfl, hb⟩; have HB := Lib.hid hb; have HT1 := Lib.hid (HT0.out.below hb); have HQ0 := Lib.hid (H0.out.below hb); have HQ := Lib.hid ((H0.out.below hb).below ((Below.refl _ _).alloc (Nat.le_refl _) (.cells #[.int .i64 tk, .string S, .int .i64 tn, .int .i64 tp] 146))); have c1 := HQ.out.c1; have f1 := HQ.out.fr 1; have e0 := HT1.out.c0; have e1 := HT1.out.c1; have e2 := HT1.out.c2; have e3 := HT1.out.c3; have r0 := HT1.out.fr 0; have r1 := HT1.out.fr 1; have r2 := HT1.out.fr 2; have r3 := HT1.out.fr 3; have hz1 : w.heap.size < w1.heap.size := (by have := hb.size; simp at this; omega); have hz2 : b < w1.heap.size := (by omega); clear hb)
  have HQ1 := Lib.hid (HQ0.out.set1 (nx + 1))
  have HG1 : Hid (w.grownBy (w1.setCell ⟨b, 1, none⟩ (.int .i64 ((nx : Int) + 1))) (some b)) :=
    grown_trans (grown_trans (World.grownBy_alloc w _ _) (grown_below HB.out _)) (grown_set _ ⟨b, 1, none⟩ _)
  have HT2 : Hid (TB (w1.setCell ⟨b, 1, none⟩ (.int .i64 ((nx : Int) + 1))) w.heap.size 0 ⟨#[]⟩ 0 0) := HT1.out.kept (grown_set _ ⟨b, 1, none⟩ _) (by simp; omega)
  rw [Int.natCast_add] at HQ1
  exact bodyPost_ret (resToken rfl ((HT2.out.all tk S tn tp).kept (World.grownBy_alloc _ _ none) (by simp))) rfl ⟨rfl, (HQ1.out.all (by omega) (by omega) _ _ _ _).below ((Below.refl _ _).alloc (Nat.le_refl _) _), grown_trans (grown_all HG1.out (Nat.le_refl _) _ _ _ _) (World.grownBy_alloc _ _ _)⟩
end Go.Proofs.YtbmicnajedeenaaGreatDoor
/- The parser: a rule within a rule. -/
namespace Go.Proofs.YtbmicnajedeenaaGreatDoor
open Go.RowKit

/-- an expression's seven cells fill block g -/
def EB (w : World) (g : Nat) (v0 v1 v2 v3 v4 v5 v6 : Value) : Prop := w.heap[g]? = some (.cells #[v0, v1, v2, v3, v4, v5, v6] 30 (0, 0))
section
variable {w w' : World} {g : Nat} {v0 v1 v2 v3 v4 v5 v6 : Value}
theorem EB.lt (h : EB w g v0 v1 v2 v3 v4 v5 v6) : g < w.heap.size := (Array.getElem?_eq_some_iff.1 h).1
theorem EB.c0 (h : EB w g v0 v1 v2 v3 v4 v5 v6) : w.cell? ⟨g, 0, none⟩ = some v0 := cell_of_row w g 0 _ _ (0, 0) h
theorem EB.c1 (h : EB w g v0 v1 v2 v3 v4 v5 v6) : w.cell? ⟨g, 1, none⟩ = some v1 := cell_of_row w g 1 _ _ (0, 0) h
theorem EB.c2 (h : EB w g v0 v1 v2 v3 v4 v5 v6) : w.cell? ⟨g, 2, none⟩ = some v2 := cell_of_row w g 2 _ _ (0, 0) h
theorem EB.c3 (h : EB w g v0 v1 v2 v3 v4 v5 v6) : w.cell? ⟨g, 3, none⟩ = some v3 := cell_of_row w g 3 _ _ (0, 0) h
theorem EB.c4 (h : EB w g v0 v1 v2 v3 v4 v5 v6) : w.cell? ⟨g, 4, none⟩ = some v4 := cell_of_row w g 4 _ _ (0, 0) h
theorem EB.c5 (h : EB w g v0 v1 v2 v3 v4 v5 v6) : w.cell? ⟨g, 5, none⟩ = some v5 := cell_of_row w g 5 _ _ (0, 0) h
theorem EB.c6 (h : EB w g v0 v1 v2 v3 v4 v5 v6) : w.cell? ⟨g, 6, none⟩ = some v6 := cell_of_row w g 6 _ _ (0, 0) h
theorem EB.fr (h : EB w g v0 v1 v2 v3 v4 v5 v6) (i : Nat) : w.frozen? ⟨g, i, none⟩ = false := by
  unfold EB at h; simp [World.frozen?, h]
theorem EB.new (w : World) (v0 v1 v2 v3 v4 v5 v6 : Value) : EB (w.alloc (.cells #[v0, v1, v2, v3, v4, v5, v6] 30)) w.heap.size v0 v1 v2 v3 v4 v5 v6 := heap_alloc_new w _
theorem EB.kept (h : EB w g v0 v1 v2 v3 v4 v5 v6) {row : Option Nat} (hg : w.grownBy w' row) (hne : some g ≠ row) : EB w' g v0 v1 v2 v3 v4 v5 v6 := (hg.block g h.lt hne).trans h
/-- seven stores -/
def set7 (w : World) (g : Nat) (v0 v1 v2 v3 v4 v5 v6 : Value) : World := ((((((w.setCell ⟨g, 0, none⟩ v0).setCell ⟨g, 1, none⟩ v1).setCell ⟨g, 2, none⟩ v2).setCell ⟨g, 3, none⟩ v3).setCell ⟨g, 4, none⟩ v4).setCell ⟨g, 5, none⟩ v5).setCell ⟨g, 6, none⟩ v6
theorem EB.all (h : EB w g v0 v1 v2 v3 v4 v5 v6) (u0 u1 u2 u3 u4 u5 u6 : Value) : EB (set7 w g u0 u1 u2 u3 u4 u5 u6) g u0 u1 u2 u3 u4 u5 u6 := by
  unfold EB at h ⊢; unfold set7; simp [World.setCell, Array.getElem?_modify, h]
theorem set7_grown (w : World) (g : Nat) (v0 v1 v2 v3 v4 v5 v6 : Value) : w.grownBy (set7 w g v0 v1 v2 v3 v4 v5 v6) (some g) :=
  grown_trans (grown_trans (grown_trans (grown_trans (grown_trans (grown_trans (grown_set w ⟨g, 0, none⟩ v0) (grown_set _ ⟨g, 1, none⟩ v1)) (grown_set _ ⟨g, 2, none⟩ v2)) (grown_set _ ⟨g, 3, none⟩ v3)) (grown_set _ ⟨g, 4, none⟩ v4)) (grown_set _ ⟨g, 5, none⟩ v5)) (grown_set _ ⟨g, 6, none⟩ v6)
end
theorem grown_7 {w W : World} {row : Option Nat} (h : w.grownBy W row) {x : Nat} (hp : w.heap.size ≤ x) (v0 v1 v2 v3 v4 v5 v6 : Value) : w.grownBy (set7 W x v0 v1 v2 v3 v4 v5 v6) row :=
  grown_new (grown_new (grown_new (grown_new (grown_new (grown_new (grown_new h hp _) hp _) hp _) hp _) hp _) hp _) hp _
theorem Same.of_grown {P : Nat → Prop} {w w' : World} {row : Option Nat} (h : w.grownBy w' row) (hp : ∀ b, P b → some b ≠ row) : Same P w w' := ⟨h.size, fun b hb hlt => h.block b hlt (hp b hb)⟩
/-- block x holds the parser's address -/
def BoxP (w : World) (x b : Nat) : Prop := w.heap[x]? = some (.cells #[.pointer (some ⟨b, 0, none⟩)] 103 (0, 0))
theorem BoxP.lt {w : World} {x b : Nat} (h : BoxP w x b) : x < w.heap.size := (Array.getElem?_eq_some_iff.1 h).1
theorem BoxP.c {w : World} {x b : Nat} (h : BoxP w x b) : w.cell? ⟨x, 0, none⟩ = some (.pointer (some ⟨b, 0, none⟩)) := cell_of_row w x 0 _ _ (0, 0) h
theorem BoxP.kept {w w' : World} {x b : Nat} (h : BoxP w x b) {row : Option Nat} (hg : w.grownBy w' row) (hne : some x ≠ row) : BoxP w' x b := (hg.block x h.lt hne).trans h
theorem BoxP.ne {w : World} {x b g go c : Nat} {ts : List Rt} {nx dp : Nat} (h : BoxP w x b) (hp : PS w b g go c ts nx dp) : x ≠ b := by
  rintro rfl
  have h1 := hp.blk
  unfold BoxP at h
  rw [h] at h1
  injection h1 with h1; injection h1 with _ h1; cases h1

/-- a rule of the parser that succeeds: it yields an expression, and the parser stands behind it -/
def ExprTo (w : World) (b g go c : Nat) (ts : List Rt) (nx dp : Nat) (ex : Ex) (e : Ending) (w' : World) : Prop :=
  ∃ (k n : Int) (s t : ByteArray) (A0 : Option Addr) (n0 c0 : Nat) (A1 : Option Addr) (n1 c1 : Nat) (A2 : Option Addr) (n2 c2 : Nat), e = .returned (.agg #[.int .i64 k, .int .i64 n, .string s, .string t, .slice A0 n0 c0, .slice A1 n1 c1, .slice A2 n2 c2]) ∧
    RepE (fun x => w.heap.size ≤ x) w' ex [.int .i64 k, .int .i64 n, .string s, .string t, .slice A0 n0 c0, .slice A1 n1 c1, .slice A2 n2 c2] ∧ Went w w' b g go c ts nx dp
/-- a rule of the parser that fails -/
def FailTo (w : World) (b g go c : Nat) (ts : List Rt) (nx : Nat) (e : Ending) (w' : World) : Prop := e = failE ∧ ∃ dp, Went w w' b g go c ts nx dp

theorem resNested {tmps : Array Value} {w : World} {g : Nat} {v0 v1 v2 v3 v4 v5 v6 : Value} (h2 : tmps.getD 4 undef = .pointer (some ⟨g, 0, none⟩)) (h : EB w g v0 v1 v2 v3 v4 v5 v6) :
    (results Tryz.f81 tmps).run Tryz.prog w = .ok (.agg #[v0, v1, v2, v3, v4, v5, v6]) w := by
  have c0 := h.c0
  have c1 := h.c1
  have c2 := h.c2
  have c3 := h.c3
  have c4 := h.c4
  have c5 := h.c5
  have c6 := h.c6
  have h2' : tmps[4]?.getD undef = .pointer (some ⟨g, 0, none⟩) := by simpa using h2
  simp [results, Tryz.results81, go_sem, h2', c0, c1, c2, c3, c4, c5, c6]

set_option maxRecDepth 100000 in
set_option maxHeartbeats 1000000 in
theorem nested_expr (x b g go c : Nat) (ts : List Rt) (nx dp nx' : Nat) (ex : Ex) (w : World) (h : PS w b g go c ts nx dp) (hx : BoxP w x b) (hd : dp + 1 ≤ 400)
    (HC : Hid (∀ w', PS w' b g go c ts nx (dp + 1) → BoxP w' x b → Calls Tryz.prog 82 #[.pointer (some ⟨x, 0, none⟩)] w' (ExprTo w' b g go c ts nx' (dp + 1) ex))) :
    Calls Tryz.prog 81 #[.pointer (some ⟨b, 0, none⟩), .func (.func 82) #[] #[.pointer (some ⟨x, 0, none⟩)]] w (ExprTo w b g go c ts nx' dp ex) := by
  have c2 := h.c2
  have f2 := h.fr 2
  have hbl := h.blt
  have hgl := h.lt
  have hxl := hx.lt
  have hxb := hx.ne h
  have H := Lib.hid h
  have HX := Lib.hid hx
  have H1 : Hid (PS (w.setCell ⟨b, 2, none⟩ (.int .i64 ((dp : Int) + 1))) b g go c ts nx (dp + 1)) := by have := h.set2 (dp + 1); rw [Int.natCast_add] at this; exact this
  have HX1 : Hid (BoxP (w.setCell ⟨b, 2, none⟩ (.int .i64 ((dp : Int) + 1))) x b) := hx.kept (grown_set w ⟨b, 2, none⟩ _) (by simp; omega)
  have q1 : ¬ w.heap.size = b := by omega
  have q2 : ¬ b = w.heap.size := by omega
  have i0 : (dp : Int) + 1 ≤ 400 := by omega
  clear h hx
  go_enter Tryz.func81, Tryz.ntmps81
  go_wp2_with fail
  obtain ⟨W1, hW1⟩ : ∃ W1, (w.setCell ⟨b, 2, none⟩ (.int .i64 ((dp : Int) + 1))).alloc (.cells #[.int .i64 0, .int .i64 0, .string ⟨#[]⟩, .string ⟨#[]⟩, .slice none 0 0, .slice none 0 0, .slice none 0 0] 30) = W1 := ⟨_, rfl⟩
  have HPW : Hid (PS W1 b g go c ts nx (dp + 1)) := by rw [← hW1]; exact H1.out.below ((Below.refl _ _).alloc (Nat.le_refl _) _)
  have HXW : Hid (BoxP W1 x b) := by rw [← hW1]; exact HX1.out.kept (World.grownBy_alloc _ _ none) (by simp)
  have HEW : Hid (EB W1 w.heap.size (.int .i64 0) (.int .i64 0) (.string ⟨#[]⟩) (.string ⟨#[]⟩) (.slice none 0 0) (.slice none 0 0) (.slice none 0 0)) := by
    have := EB.new (w.setCell ⟨b, 2, none⟩ (.int .i64 ((dp : Int) + 1))) (.int .i64 0) (.int .i64 0) (.string ⟨#[]⟩) (.string ⟨#[]⟩) (.slice none 0 0) (.slice none 0 0) (.slice none 0 0)
    rw [hW1, size_set] at this; exact this
  have HGW : Hid (w.grownBy W1 (some b)) := by rw [← hW1]; exact grown_trans (grown_set _ ⟨b, 2, none⟩ _) (World.grownBy_alloc _ _ _)
  have hzW : W1.heap.size = w.heap.size + 1 := by rw [← hW1]; simp [World.setCell]
  rw [hW1]
  refine (HC.out W1 HPW.out HXW.out).mono ?_
  rintro e w2 ⟨k, n, s, t, A0, n0, m0, A1, n1, m1, A2, n2, m2, rfl, hr, hw⟩
  have HR := Lib.hid hr
  have HP2 := Lib.hid hw.1
  have HG2 := Lib.hid hw.2
  have HE2 := Lib.hid (HEW.out.kept hw.2 (by simp; omega))
  have c2' := hw.1.c2
  rw [Int.natCast_add] at c2'
  have f2' := hw.1.fr 2
  have e0 := HE2.out.c0
  have e1 := HE2.out.c1
  have e2 := HE2.out.c2
  have e3 := HE2.out.c3
  have e4 := HE2.out.c4
  have e5 := HE2.out.c5
  have e6 := HE2.out.c6
  have r0 := HE2.out.fr 0
  have r1 := HE2.out.fr 1
  have r2 := HE2.out.fr 2
  have r3 := HE2.out.fr 3
  have r4 := HE2.out.fr 4
  have r5 := HE2.out.fr 5
  have r6 := HE2.out.fr 6
  have hz1 : w.heap.size < w2.heap.size := by have := hw.2.size; omega
  have hz2 : b < w2.heap.size := by omega
  have HZ := Lib.hid hzW
  clear hr hw hW1 hzW c2 f2 HC
  go_wp2_with fail
  have HP3 : Hid (PS (w2.setCell ⟨b, 2, none⟩ (.int .i64 (dp : Int))) b g go c ts nx' dp) := HP2.out.set2 dp
  have HE3 : Hid (EB (w2.setCell ⟨b, 2, none⟩ (.int .i64 (dp : Int))) w.heap.size (.int .i64 0) (.int .i64 0) (.string ⟨#[]⟩) (.string ⟨#[]⟩) (.slice none 0 0) (.slice none 0 0) (.slice none 0 0)) := HE2.out.kept (grown_set _ ⟨b, 2, none⟩ _) (by simp; omega)
  have HG3 : Hid (w.grownBy (w2.setCell ⟨b, 2, none⟩ (.int .i64 (dp : Int))) (some b)) := grown_trans (grown_trans HGW.out HG2.out) (grown_set _ ⟨b, 2, none⟩ _)
  have HS : Hid (∀ V, Same (fun x => W1.heap.size ≤ x) w2 ((set7 (w2.setCell ⟨b, 2, none⟩ (.int .i64 (dp : Int))) w.heap.size (.int .i64 k) (.int .i64 n) (.string s) (.string t) (.slice A0 n0 m0) (.slice A1 n1 m1) (.slice A2 n2 m2)).alloc V)) := fun V =>
    ((Same.of_grown (grown_set w2 ⟨b, 2, none⟩ _) (fun x hx => by simp; have := HZ.out; omega)).trans (Same.of_grown (set7_grown _ _ _ _ _ _ _ _ _) (fun x hx => by simp; have := HZ.out; omega))).trans (Same.of_grown (World.grownBy_alloc _ _ none) (fun x hx => by simp))
  exact bodyPost_ret (resNested rfl ((HE3.out.all (.int .i64 k) (.int .i64 n) (.string s) (.string t) (.slice A0 n0 m0) (.slice A1 n1 m1) (.slice A2 n2 m2)).kept (World.grownBy_alloc _ _ none) (by simp))) rfl
    ⟨k, n, s, t, A0, n0, m0, A1, n1, m1, A2, n2, m2, rfl, (HR.out.keep (HS.out _)).weaken (fun x hx => by have := HZ.out; omega),
      (HP3.out.kept (set7_grown _ _ _ _ _ _ _ _ _) (by simp; omega) (by simp; omega)).below ((Below.refl _ _).alloc (Nat.le_refl _) _), grown_trans (grown_7 HG3.out (Nat.le_refl _) _ _ _ _ _ _ _) (World.grownBy_alloc _ _ _)⟩

set_option maxRecDepth 100000 in
set_option maxHeartbeats 1000000 in
theorem nested_atom (x b g go c : Nat) (ts : List Rt) (nx dp nx' : Nat) (ex : Ex) (w : World) (h : PS w b g go c ts nx dp) (hx : BoxP w x b) (hd : dp + 1 ≤ 400)
    (HC : Hid (∀ w', PS w' b g go c ts nx (dp + 1) → BoxP w' x b → Calls Tryz.prog 169 #[.pointer (some ⟨x, 0, none⟩)] w' (ExprTo w' b g go c ts nx' (dp + 1) ex))) :
    Calls Tryz.prog 81 #[.pointer (some ⟨b, 0, none⟩), .func (.func 169) #[] #[.pointer (some ⟨x, 0, none⟩)]] w (ExprTo w b g go c ts nx' dp ex) := by
  have c2 := h.c2
  have f2 := h.fr 2
  have hbl := h.blt
  have hgl := h.lt
  have hxl := hx.lt
  have hxb := hx.ne h
  have H := Lib.hid h
  have HX := Lib.hid hx
  have H1 : Hid (PS (w.setCell ⟨b, 2, none⟩ (.int .i64 ((dp : Int) + 1))) b g go c ts nx (dp + 1)) := by have := h.set2 (dp + 1); rw [Int.natCast_add] at this; exact this
  have HX1 : Hid (BoxP (w.setCell ⟨b, 2, none⟩ (.int .i64 ((dp : Int) + 1))) x b) := hx.kept (grown_set w ⟨b, 2, none⟩ _) (by simp; omega)
  have q1 : ¬ w.heap.size = b := by omega
  have q2 : ¬ b = w.heap.size := by omega
  have i0 : (dp : Int) + 1 ≤ 400 := by omega
  clear h hx
  go_enter Tryz.func81, Tryz.ntmps81
  go_wp2_with fail
  obtain ⟨W1, hW1⟩ : ∃ W1, (w.setCell ⟨b, 2, none⟩ (.int .i64 ((dp : Int) + 1))).alloc (.cells #[.int .i64 0, .int .i64 0, .string ⟨#[]⟩, .string ⟨#[]⟩, .slice none 0 0, .slice none 0 0, .slice none 0 0] 30) = W1 := ⟨_, rfl⟩
  have HPW : Hid (PS W1 b g go c ts nx (dp + 1)) := by rw [← hW1]; exact H1.out.below ((Below.refl _ _).alloc (Nat.le_refl _) _)
  have HXW : Hid (BoxP W1 x b) := by rw [← hW1]; exact HX1.out.kept (World.grownBy_alloc _ _ none) (by simp)
  have HEW : Hid (EB W1 w.heap.size (.int .i64 0) (.int .i64 0) (.string ⟨#[]⟩) (.string ⟨#[]⟩) (.slice none 0 0) (.slice none 0 0) (.slice none 0 0)) := by
    have := EB.new (w.setCell ⟨b, 2, none⟩ (.int .i64 ((dp : Int) + 1))) (.int .i64 0) (.int .i64 0) (.string ⟨#[]⟩) (.string ⟨#[]⟩) (.slice none 0 0) (.slice none 0 0) (.slice none 0 0)
    rw [hW1, size_set] at this; exact this
  have HGW : Hid (w.grownBy W1 (some b)) := by rw [← hW1]; exact grown_trans (grown_set _ ⟨b, 2, none⟩ _) (World.grownBy_alloc _ _ _)
  have hzW : W1.heap.size = w.heap.size + 1 := by rw [← hW1]; simp [World.setCell]
  rw [hW1]
  refine (HC.out W1 HPW.out HXW.out).mono ?_
  rintro e w2 ⟨k, n, s, t, A0, n0, m0, A1, n1, m1, A2, n2, m2, rfl, hr, hw⟩
  have HR := Lib.hid hr
  have HP2 := Lib.hid hw.1
  have HG2 := Lib.hid hw.2
  have HE2 := Lib.hid (HEW.out.kept hw.2 (by simp; omega))
  have c2' := hw.1.c2
  rw [Int.natCast_add] at c2'
  have f2' := hw.1.fr 2
  have e0 := HE2.out.c0
  have e1 := HE2.out.c1
  have e2 := HE2.out.c2
  have e3 := HE2.out.c3
  have e4 := HE2.out.c4
  have e5 := HE2.out.c5
  have e6 := HE2.out.c6
  have r0 := HE2.out.fr 0
  have r1 := HE2.out.fr 1
  have r2 := HE2.out.fr 2
  have r3 := HE2.out.fr 3
  have r4 := HE2.out.fr 4
  have r5 := HE2.out.fr 5
  have r6 := HE2.out.fr 6
  have hz1 : w.heap.size < w2.heap.size := by have := hw.2.size; omega
  have hz2 : b < w2.heap.size := by omega
  have HZ := Lib.hid hzW
  clear hr hw hW1 hzW c2 f2 HC
  go_wp2_with fail
  have HP3 : Hid (PS (w2.setCell ⟨b, 2, none⟩ (.int .i64 (dp : Int))) b g go c ts nx' dp) := HP2.out.set2 dp
  have HE3 : Hid (EB (w2.setCell ⟨b, 2, none⟩ (.int .i64 (dp : Int))) w.heap.size (.int .i64 0) (.int .i64 0) (.string ⟨#[]⟩) (.string ⟨#[]⟩) (.slice none 0 0) (.slice none 0 0) (.slice none 0 0)) := HE2.out.kept (grown_set _ ⟨b, 2, none⟩ _) (by simp; omega)
  have HG3 : Hid (w.grownBy (w2.setCell ⟨b, 2, none⟩ (.int .i64 (dp : Int))) (some b)) := grown_trans (grown_trans HGW.out HG2.out) (grown_set _ ⟨b, 2, none⟩ _)
  have HS : Hid (∀ V, Same (fun x => W1.heap.size ≤ x) w2 ((set7 (w2.setCell ⟨b, 2, none⟩ (.int .i64 (dp : Int))) w.heap.size (.int .i64 k) (.int .i64 n) (.string s) (.string t) (.slice A0 n0 m0) (.slice A1 n1 m1) (.slice A2 n2 m2)).alloc V)) := fun V =>
    ((Same.of_grown (grown_set w2 ⟨b, 2, none⟩ _) (fun x hx => by simp; have := HZ.out; omega)).trans (Same.of_grown (set7_grown _ _ _ _ _ _ _ _ _) (fun x hx => by simp; have := HZ.out; omega))).trans (Same.of_grown (World.grownBy_alloc _ _ none) (fun x hx => by simp))
  exact bodyPost_ret (resNested rfl ((HE3.out.all (.int .i64 k) (.int .i64 n) (.string s) (.string t) (.slice A0 n0 m0) (.slice A1 n1 m1) (.slice A2 n2 m2)).kept (World.grownBy_alloc _ _ none) (by simp))) rfl
    ⟨k, n, s, t, A0, n0, m0, A1, n1, m1, A2, n2, m2, rfl, (HR.out.keep (HS.out _)).weaken (fun x hx => by have := HZ.out; omega),
      (HP3.out.kept (set7_grown _ _ _ _ _ _ _ _ _) (by simp; omega) (by simp; omega)).below ((Below.refl _ _).alloc (Nat.le_refl _) _), grown_trans (grown_7 HG3.out (Nat.le_refl _) _ _ _ _ _ _ _) (World.grownBy_alloc _ _ _)⟩

set_option maxRecDepth 100000 in
set_option maxHeartbeats 1000000 in
theorem nested_expr_fail (x b g go c : Nat) (ts : List Rt) (nx dp nx' : Nat) (w : World) (h : PS w b g go c ts nx dp) (hx : BoxP w x b) (hd : dp + 1 ≤ 400)
    (HC : Hid (∀ w', PS w' b g go c ts nx (dp + 1) → BoxP w' x b → Calls Tryz.prog 82 #[.pointer (some ⟨x, 0, none⟩)] w' (FailTo w' b g go c ts nx'))) :
    Calls Tryz.prog 81 #[.pointer (some ⟨b, 0, none⟩), .func (.func 82) #[] #[.pointer (some ⟨x, 0, none⟩)]] w (FailTo w b g go c ts nx') := by
  have c2 := h.c2
  have f2 := h.fr 2
  have hbl := h.blt
  have hgl := h.lt
  have hxb := hx.ne h
  have H1 : Hid (PS (w.setCell ⟨b, 2, none⟩ (.int .i64 ((dp : Int) + 1))) b g go c ts nx (dp + 1)) := by have := h.set2 (dp + 1); rw [Int.natCast_add] at this; exact this
  have HX1 : Hid (BoxP (w.setCell ⟨b, 2, none⟩ (.int .i64 ((dp : Int) + 1))) x b) := hx.kept (grown_set w ⟨b, 2, none⟩ _) (by simp; omega)
  have q1 : ¬ w.heap.size = b := by omega
  have q2 : ¬ b = w.heap.size := by omega
  have i0 : (dp : Int) + 1 ≤ 400 := by omega
  clear h hx
  go_enter Tryz.func81, Tryz.ntmps81
  go_wp2_with fail
  refine (HC.out _ (H1.out.below ((Below.refl _ _).alloc (Nat.le_refl _) _)) (HX1.out.kept (World.grownBy_alloc _ _ none) (by simp))).mono ?_
  rintro e w2 ⟨rfl, dp', hp, hg⟩
  exact ⟨rfl, rfl, dp', hp, grown_trans (grown_trans (grown_set w ⟨b, 2, none⟩ _) (World.grownBy_alloc _ _ _)) hg⟩

theorem res_expr_any {tmps : Array Value} {w : World} {g : Nat} {v0 v1 v2 v3 v4 v5 v6 : Value} (h2 : tmps.getD 2 undef = .pointer (some ⟨g, 0, none⟩)) (h : EB w g v0 v1 v2 v3 v4 v5 v6) :
    (results Tryz.f33 tmps).run Tryz.prog w = .ok (.agg #[v0, v1, v2, v3, v4, v5, v6]) w := by
  have c0 := h.c0
  have c1 := h.c1
  have c2 := h.c2
  have c3 := h.c3
  have c4 := h.c4
  have c5 := h.c5
  have c6 := h.c6
  have h2' : tmps[2]?.getD undef = .pointer (some ⟨g, 0, none⟩) := by simpa using h2
  simp [results, Tryz.results33, go_sem, h2', c0, c1, c2, c3, c4, c5, c6]

set_option maxRecDepth 100000 in
set_option maxHeartbeats 1000000 in
theorem expr_any (b g go c : Nat) (ts : List Rt) (nx dp nx' : Nat) (ex : Ex) (w : World) (h : PS w b g go c ts nx dp) (hd : dp + 1 ≤ 400)
    (HC : Hid (∀ x w', PS w' b g go c ts nx (dp + 1) → BoxP w' x b → Calls Tryz.prog 82 #[.pointer (some ⟨x, 0, none⟩)] w' (ExprTo w' b g go c ts nx' (dp + 1) ex))) :
    Calls Tryz.prog 33 #[.pointer (some ⟨b, 0, none⟩)] w (ExprTo w b g go c ts nx' dp ex) := by
  have hbl := h.blt
  have hgl := h.lt
  have H := Lib.hid h
  clear h
  go_enter Tryz.func33, Tryz.ntmps33
  go_wp2_with fail
  obtain ⟨W1, hW1⟩ : ∃ W1, (w.alloc (.cells #[.pointer (some ⟨b, 0, none⟩)] 103)).alloc (.cells #[.int .i64 0, .int .i64 0, .string ⟨#[]⟩, .string ⟨#[]⟩, .slice none 0 0, .slice none 0 0, .slice none 0 0] 30) = W1 := ⟨_, rfl⟩
  have HPW : Hid (PS W1 b g go c ts nx dp) := by rw [← hW1]; exact H.out.below (((Below.refl _ _).alloc (Nat.le_refl _) _).alloc (by simp) _)
  have HXW : Hid (BoxP W1 w.heap.size b) := by rw [← hW1]; exact (show BoxP (w.alloc (.cells #[.pointer (some ⟨b, 0, none⟩)] 103)) w.heap.size b from heap_alloc_new w _).kept (World.grownBy_alloc _ _ none) (by simp)
  have HEW : Hid (EB W1 (w.heap.size + 1) (.int .i64 0) (.int .i64 0) (.string ⟨#[]⟩) (.string ⟨#[]⟩) (.slice none 0 0) (.slice none 0 0) (.slice none 0 0)) := by
    have := EB.new (w.alloc (.cells #[.pointer (some ⟨b, 0, none⟩)] 103)) (.int .i64 0) (.int .i64 0) (.string ⟨#[]⟩) (.string ⟨#[]⟩) (.slice none 0 0) (.slice none 0 0) (.slice none 0 0)
    rw [hW1, World.size_alloc] at this; exact this
  have HGW : Hid (w.grownBy W1 (some b)) := by rw [← hW1]; exact grown_trans (World.grownBy_alloc _ _ _) (World.grownBy_alloc _ _ _)
  have hzW : W1.heap.size = w.heap.size + 2 := by rw [← hW1]; simp
  rw [hW1]
  refine (nested_expr w.heap.size b g go c ts nx dp nx' ex W1 HPW.out HXW.out hd (HC.out _)).mono ?_
  rintro e w2 ⟨k, n, s, t, A0, n0, m0, A1, n1, m1, A2, n2, m2, rfl, hr, hw⟩
  have HR := Lib.hid hr
  have HP2 := Lib.hid hw.1
  have HG2 := Lib.hid (grown_trans HGW.out hw.2)
  have HE2 := Lib.hid (HEW.out.kept hw.2 (by simp; omega))
  have e0 := HE2.out.c0
  have e1 := HE2.out.c1
  have e2 := HE2.out.c2
  have e3 := HE2.out.c3
  have e4 := HE2.out.c4
  have e5 := HE2.out.c5
  have e6 := HE2.out.c6
  have r0 := HE2.out.fr 0
  have r1 := HE2.out.fr 1
  have r2 := HE2.out.fr 2
  have r3 := HE2.out.fr 3
  have r4 := HE2.out.fr 4
  have r5 := HE2.out.fr 5
  have r6 := HE2.out.fr 6
  have HZ := Lib.hid hzW
  clear hr hw hW1 hzW HC
  go_wp2_with fail
  exact bodyPost_ret (res_expr_any rfl (HE2.out.all (.int .i64 k) (.int .i64 n) (.string s) (.string t) (.slice A0 n0 m0) (.slice A1 n1 m1) (.slice A2 n2 m2))) rfl
    ⟨k, n, s, t, A0, n0, m0, A1, n1, m1, A2, n2, m2, rfl, (HR.out.keep (Same.of_grown (set7_grown _ _ _ _ _ _ _ _ _) (fun x hx => by simp; have := HZ.out; omega))).weaken (fun x hx => by have := HZ.out; omega),
      HP2.out.kept (set7_grown _ _ _ _ _ _ _ _ _) (by simp; omega) (by simp; omega), grown_7 HG2.out (by omega) _ _ _ _ _ _ _⟩

set_option maxRecDepth 100000 in
set_option maxHeartbeats 1000000 in
theorem expr_any_fail (b g go c : Nat) (ts : List Rt) (nx dp nx' : Nat) (w : World) (h : PS w b g go c ts nx dp) (hd : dp + 1 ≤ 400)
    (HC : Hid (∀ x w', PS w' b g go c ts nx (dp + 1) → BoxP w' x b → Calls Tryz.prog 82 #[.pointer (some ⟨x, 0, none⟩)] w' (FailTo w' b g go c ts nx'))) :
    Calls Tryz.prog 33 #[.pointer (some ⟨b, 0, none⟩)] w (FailTo w b g go c ts nx') := by
  have H := Lib.hid h
  clear h
  go_enter Tryz.func33, Tryz.ntmps33
  go_wp2_with fail
  refine (nested_expr_fail w.heap.size b g go c ts nx dp nx' _ (H.out.below (((Below.refl _ _).alloc (Nat.le_refl _) _).alloc (by simp) _)) ((show BoxP (w.alloc (.cells #[.pointer (some ⟨b, 0, none⟩)] 103)) w.heap.size b from heap_alloc_new w _).kept (World.grownBy_alloc _ _ none) (by simp)) hd (HC.out _)).mono ?_
  rintro e w2 ⟨rfl, dp', hp, hg⟩
  exact ⟨rfl, rfl, dp', hp, grown_trans (grown_trans (World.grownBy_alloc _ _ _) (World.grownBy_alloc _ _ _)) hg⟩

theorem res_atom_any {tmps : Array Value} {w : World} {g : Nat} {v0 v1 v2 v3 v4 v5 v6 : Value} (h2 : tmps.getD 2 undef = .pointer (some ⟨g, 0, none⟩)) (h : EB w g v0 v1 v2 v3 v4 v5 v6) :
    (results Tryz.f151 tmps).run Tryz.prog w = .ok (.agg #[v0, v1, v2, v3, v4, v5, v6]) w := by
  have c0 := h.c0
  have c1 := h.c1
  have c2 := h.c2
  have c3 := h.c3
  have c4 := h.c4
  have c5 := h.c5
  have c6 := h.c6
  have h2' : tmps[2]?.getD undef = .pointer (some ⟨g, 0, none⟩) := by simpa using h2
  simp [results, Tryz.results151, go_sem, h2', c0, c1, c2, c3, c4, c5, c6]

set_option maxRecDepth 100000 in
set_option maxHeartbeats 1000000 in
theorem atom_any (b g go c : Nat) (ts : List Rt) (nx dp nx' : Nat) (ex : Ex) (w : World) (h : PS w b g go c ts nx dp) (hd : dp + 1 ≤ 400)
    (HC : Hid (∀ x w', PS w' b g go c ts nx (dp + 1) → BoxP w' x b → Calls Tryz.prog 169 #[.pointer (some ⟨x, 0, none⟩)] w' (ExprTo w' b g go c ts nx' (dp + 1) ex))) :
    Calls Tryz.prog 151 #[.pointer (some ⟨b, 0, none⟩)] w (ExprTo w b g go c ts nx' dp ex) := by
  have hbl := h.blt
  have hgl := h.lt
  have H := Lib.hid h
  clear h
  go_enter Tryz.func151, Tryz.ntmps151
  go_wp2_with fail
  obtain ⟨W1, hW1⟩ : ∃ W1, (w.alloc (.cells #[.pointer (some ⟨b, 0, none⟩)] 103)).alloc (.cells #[.int .i64 0, .int .i64 0, .string ⟨#[]⟩, .string ⟨#[]⟩, .slice none 0 0, .slice none 0 0, .slice none 0 0] 30) = W1 := ⟨_, rfl⟩
  have HPW : Hid (PS W1 b g go c ts nx dp) := by rw [← hW1]; exact H.out.below (((Below.refl _ _).alloc (Nat.le_refl _) _).alloc (by simp) _)
  have HXW : Hid (BoxP W1 w.heap.size b) := by rw [← hW1]; exact (show BoxP (w.alloc (.cells #[.pointer (some ⟨b, 0, none⟩)] 103)) w.heap.size b from heap_alloc_new w _).kept (World.grownBy_alloc _ _ none) (by simp)
  have HEW : Hid (EB W1 (w.heap.size + 1) (.int .i64 0) (.int .i64 0) (.string ⟨#[]⟩) (.string ⟨#[]⟩) (.slice none 0 0) (.slice none 0 0) (.slice none 0 0)) := by
    have := EB.new (w.alloc (.cells #[.pointer (some ⟨b, 0, none⟩)] 103)) (.int .i64 0) (.int .i64 0) (.string ⟨#[]⟩) (.string ⟨#[]⟩) (.slice none 0 0) (.slice none 0 0) (.slice none 0 0)
    rw [hW1, World.size_alloc] at this; exact this
  have HGW : Hid (w.grownBy W1 (some b)) := by rw [← hW1]; exact grown_trans (World.grownBy_alloc _ _ _) (World.grownBy_alloc _ _ _)
  have hzW : W1.heap.size = w.heap.size + 2 := by rw [← hW1]; simp
  rw [hW1]
  refine (nested_atom w.heap.size b g go c ts nx dp nx' ex W1 HPW.out HXW.out hd (HC.out _)).mono ?_
  rintro e w2 ⟨k, n, s, t, A0, n0, m0, A1, n1, m1, A2, n2, m2, rfl, hr, hw⟩
  have HR := Lib.hid hr
  have HP2 := Lib.hid hw.1
  have HG2 := Lib.hid (grown_trans HGW.out hw.2)
  have HE2 := Lib.hid (HEW.out.kept hw.2 (by simp; omega))
  have e0 := HE2.out.c0
  have e1 := HE2.out.c1
  have e2 := HE2.out.c2
  have e3 := HE2.out.c3
  have e4 := HE2.out.c4
  have e5 := HE2.out.c5
  have e6 := HE2.out.c6
  have r0 := HE2.out.fr 0
  have r1 := HE2.out.fr 1
  have r2 := HE2.out.fr 2
  have r3 := HE2.out.fr 3
  have r4 := HE2.out.fr 4
  have r5 := HE2.out.fr 5
  have r6 := HE2.out.fr 6
  have HZ := Lib.hid hzW
  clear hr hw hW1 hzW HC
  go_wp2_with fail
  exact bodyPost_ret (res_atom_any rfl (HE2.out.all (.int .i64 k) (.int .i64 n) (.string s) (.string t) (.slice A0 n0 m0) (.slice A1 n1 m1) (.slice A2 n2 m2))) rfl
    ⟨k, n, s, t, A0, n0, m0, A1, n1, m1, A2, n2, m2, rfl, (HR.out.keep (Same.of_grown (set7_grown _ _ _ _ _ _ _ _ _) (fun x hx => by simp; have := HZ.out; omega))).weaken (fun x hx => by have := HZ.out; omega),
      HP2.out.kept (set7_grown _ _ _ _ _ _ _ _ _) (by simp; omega) (by simp; omega), grown_7 HG2.out (by omega) _ _ _ _ _ _ _⟩

end Go.Proofs.YtbmicnajedeenaaGreatDoor
/- The parser: atoms that are one token. -/
namespace Go.Proofs.YtbmicnajedeenaaGreatDoor
open Go.RowKit

/-- the tokens are small -/
def TokOk (ts : List Rt) : Prop := ts.length ≤ 100000 ∧ ∀ (j : Nat) (t : Rt), ts[j]? = some t → okS t.s ∧ okN t.n
set_option maxRecDepth 100000 in
set_option maxHeartbeats 1000000 in
theorem lower_ok (b g go c : Nat) (ts : List Rt) (nx dp : Nat) (t : Rt) (w : World) (h : PS w b g go c ts nx dp) (ht : ts[nx]? = some t) (hk : t.k = 0) (hlen : ts.length ≤ 100000) :
    Calls Tryz.prog 121 #[.pointer (some ⟨b, 0, none⟩)] w fun e w' => e = .returned (.string (strB t.s)) ∧ Went w w' b g go c ts (nx + 1) dp := by
  have HT := Lib.hid (token_ok b g go c ts nx dp t w h ht hlen)
  obtain ⟨tk, tss, tn, tp⟩ := t
  simp only at hk HT ⊢
  subst hk
  obtain ⟨S, hS⟩ : ∃ S, S = strB tss := ⟨_, rfl⟩
  rw [← hS] at HT ⊢
  have fl1 := tfield1
  clear h ht hS
  go_enter Tryz.func121, Tryz.ntmps121
  go_wp2_with (go_at_call 119; refine (HT.out).mono ?_; rintro e w' ⟨rfl, hw⟩; have HW := Lib.hid hw; clear hw)
  go_ret
  exact ⟨rfl, HW.out⟩

theorem rep_leaf {P : Nat → Prop} {w : World} {k n : Int} {s : List UInt8} (hk : okN k) (hn : okN n) (hs : okS s) :
    RepE P w (.mk k n s [] [] [] [] []) [.int .i64 k, .int .i64 n, .string (strB s), .string ⟨#[]⟩, .slice none 0 0, .slice none 0 0, .slice none 0 0] :=
  ⟨none, 0, none, 0, none, 0, rfl, ⟨hk, hn, hs, Nat.zero_le _, by simp, ⟨Nat.le_refl _, Nat.zero_le _⟩, ⟨Nat.le_refl _, Nat.zero_le _⟩, ⟨Nat.le_refl _, Nat.zero_le _⟩⟩, fun h => absurd rfl h, fun h => absurd rfl h, fun h => absurd rfl h, rfl⟩
theorem okN_small {n : Int} (h : -1000 ≤ n ∧ n ≤ 1000) : okN n := by unfold okN; omega
theorem okS_nil : okS [] := Nat.zero_le _

theorem res_atom1 {tmps : Array Value} {w : World} {g : Nat} {v0 v1 v2 v3 v4 v5 v6 : Value} (h2 : tmps.getD 1 undef = .pointer (some ⟨g, 0, none⟩)) (h : EB w g v0 v1 v2 v3 v4 v5 v6) :
    (results Tryz.f169 tmps).run Tryz.prog w = .ok (.agg #[v0, v1, v2, v3, v4, v5, v6]) w := by
  have c0 := h.c0
  have c1 := h.c1
  have c2 := h.c2
  have c3 := h.c3
  have c4 := h.c4
  have c5 := h.c5
  have c6 := h.c6
  have h2' : tmps[1]?.getD undef = .pointer (some ⟨g, 0, none⟩) := by simpa using h2
  simp [results, Tryz.results169, go_sem, h2', c0, c1, c2, c3, c4, c5, c6]

/-- the expression that a token is -/
def leafOf (t : Rt) : Ex := if t.k = 3 then .mk 1 t.n [] [] [] [] [] [] else .mk 0 0 t.s [] [] [] [] []

set_option maxRecDepth 100000 in
set_option maxHeartbeats 1000000 in
theorem atom1_var (x b g go c : Nat) (ts : List Rt) (nx dp : Nat) (t : Rt) (w : World) (h : PS w b g go c ts nx dp) (hx : BoxP w x b) (ht : ts[nx]? = some t) (hk : t.k = 0) (hok : TokOk ts) :
    Calls Tryz.prog 169 #[.pointer (some ⟨x, 0, none⟩)] w (ExprTo w b g go c ts (nx + 1) dp (leafOf t)) := by
  have hbl := h.blt
  have hgl := h.lt
  have hxl := hx.lt
  have cx := hx.c
  have hleaf : leafOf t = .mk 0 0 t.s [] [] [] [] [] := by unfold leafOf; rw [if_neg (by omega)]
  have HS : Hid (∀ (P : Nat → Prop) w', RepE P w' (leafOf t) [.int .i64 0, .int .i64 0, .string (strB t.s), .string ⟨#[]⟩, .slice none 0 0, .slice none 0 0, .slice none 0 0]) := fun P w' => by
    rw [hleaf]; exact rep_leaf (okN_small (by omega)) (okN_small (by omega)) (hok.2 _ _ ht).1
  obtain ⟨lf, hlf⟩ : ∃ lf, lf = leafOf t := ⟨_, rfl⟩
  rw [← hlf] at HS ⊢
  have HP := Lib.hid (fun w h => peek_any b g go c ts nx dp t w h ht)
  have HL := Lib.hid (fun w h => lower_ok b g go c ts nx dp t w h ht hk hok.1)
  have H0 : Hid (PS (w.alloc (.cells #[.int .i64 0, .int .i64 0, .string ⟨#[]⟩, .string ⟨#[]⟩, .slice none 0 0, .slice none 0 0, .slice none 0 0] 30)) b g go c ts nx dp) := h.below ((Below.refl _ _).alloc (Nat.le_refl _) _)
  have HE0 := Lib.hid (EB.new w (.int .i64 0) (.int .i64 0) (.string ⟨#[]⟩) (.string ⟨#[]⟩) (.slice none 0 0) (.slice none 0 0) (.slice none 0 0))
  have HX := Lib.hid hx
  obtain ⟨tk, tss, tn, tp⟩ := t
  simp only at hk HP HL HS
  subst hk
  obtain ⟨S, hS⟩ : ∃ S, S = strB tss := ⟨_, rfl⟩
  rw [← hS] at HP HL HS
  have fl0 := tfield0
  have hz : x < (w.alloc (.cells #[.int .i64 0, .int .i64 0, .string ⟨#[]⟩, .string ⟨#[]⟩, .slice none 0 0, .slice none 0 0, .slice none 0 0] 30)).heap.size := by simp; omega
  have hxb := hx.ne h
  clear h hx ht hlf hleaf hS hok
  go_enter Tryz.func169, Tryz.ntmps169
  go_wp2_with (first | (go_at_call 83; refine (HP.out _ H0.out).mono ?_; rintro e w1 ⟨rfl, hb⟩; have HB := Lib.hid hb; have H1 := Lib.hid (H0.out.below hb); have HE1 := Lib.hid (HE0.out.kept (grown_below hb none) (by simp)); have HX1 := Lib.hid ((HX.out.kept (World.grownBy_alloc w _ none) (by simp)).kept (grown_below hb none) (by simp)); have cx1 := HX1.out.c; have hz1 : w.heap.size < w1.heap.size := (by have := hb.size; simp at this; omega); clear hb) | (go_at_call 121; refine (HL.out _ H1.out).mono ?_; rintro e w2 ⟨rfl, hw⟩; have HW := Lib.hid hw; have HE2 := Lib.hid (HE1.out.kept hw.2 (by simp; omega)); have e0 := HE2.out.c0; have e1 := HE2.out.c1; have e2 := HE2.out.c2; have e3 := HE2.out.c3; have e4 := HE2.out.c4; have e5 := HE2.out.c5; have e6 := HE2.out.c6; have r0 := HE2.out.fr 0; have r1 := HE2.out.fr 1; have r2 := HE2.out.fr 2; have r3 := HE2.out.fr 3; have r4 := HE2.out.fr 4; have r5 := HE2.out.fr 5; have r6 := HE2.out.fr 6; clear hw))
  exact bodyPost_ret (res_atom1 rfl (HE2.out.all (.int .i64 0) (.int .i64 0) (.string S) (.string ⟨#[]⟩) (.slice none 0 0) (.slice none 0 0) (.slice none 0 0))) rfl
    ⟨0, 0, S, ⟨#[]⟩, none, 0, 0, none, 0, 0, none, 0, 0, rfl, HS.out _ _, HW.out.1.kept (set7_grown _ _ _ _ _ _ _ _ _) (by simp; omega) (by simp; omega),
      grown_7 (grown_trans (grown_trans (World.grownBy_alloc w _ _) (grown_below HB.out _)) HW.out.2) (Nat.le_refl _) _ _ _ _ _ _ _⟩
set_option maxRecDepth 100000 in
set_option maxHeartbeats 1000000 in
theorem atom1_int (x b g go c : Nat) (ts : List Rt) (nx dp : Nat) (t : Rt) (w : World) (h : PS w b g go c ts nx dp) (hx : BoxP w x b) (ht : ts[nx]? = some t) (hk : t.k = 3) (hok : TokOk ts) :
    Calls Tryz.prog 169 #[.pointer (some ⟨x, 0, none⟩)] w (ExprTo w b g go c ts (nx + 1) dp (leafOf t)) := by
  have hbl := h.blt
  have hgl := h.lt
  have hxl := hx.lt
  have cx := hx.c
  have hleaf : leafOf t = .mk 1 t.n [] [] [] [] [] [] := by unfold leafOf; rw [if_pos hk]
  have HS : Hid (∀ (P : Nat → Prop) w', RepE P w' (leafOf t) [.int .i64 1, .int .i64 t.n, .string ⟨#[]⟩, .string ⟨#[]⟩, .slice none 0 0, .slice none 0 0, .slice none 0 0]) := fun P w' => by
    rw [hleaf]; exact rep_leaf (s := []) (okN_small (by omega)) (hok.2 _ _ ht).2 okS_nil
  obtain ⟨lf, hlf⟩ : ∃ lf, lf = leafOf t := ⟨_, rfl⟩
  rw [← hlf] at HS ⊢
  have HP := Lib.hid (fun w h => peek_any b g go c ts nx dp t w h ht)
  have HL : Hid (∀ w, PS w b g go c ts nx dp → Calls Tryz.prog 119 #[.pointer (some ⟨b, 0, none⟩), .int .i64 3] w fun e w' => e = .returned (.agg #[.int .i64 t.k, .string (strB t.s), .int .i64 t.n, .int .i64 t.p]) ∧ Went w w' b g go c ts (nx + 1) dp) := fun w h => by have := token_ok b g go c ts nx dp t w h ht hok.1; rw [hk] at this ⊢; exact this
  have H0 : Hid (PS (w.alloc (.cells #[.int .i64 0, .int .i64 0, .string ⟨#[]⟩, .string ⟨#[]⟩, .slice none 0 0, .slice none 0 0, .slice none 0 0] 30)) b g go c ts nx dp) := h.below ((Below.refl _ _).alloc (Nat.le_refl _) _)
  have HE0 := Lib.hid (EB.new w (.int .i64 0) (.int .i64 0) (.string ⟨#[]⟩) (.string ⟨#[]⟩) (.slice none 0 0) (.slice none 0 0) (.slice none 0 0))
  have HX := Lib.hid hx
  obtain ⟨tk, tss, tn, tp⟩ := t
  simp only at hk HP HL HS
  subst hk
  obtain ⟨S, hS⟩ : ∃ S, S = strB tss := ⟨_, rfl⟩
  rw [← hS] at HP HL
  have fl0 := tfield0
  have fl2 := tfield2
  have hz : x < (w.alloc (.cells #[.int .i64 0, .int .i64 0, .string ⟨#[]⟩, .string ⟨#[]⟩, .slice none 0 0, .slice none 0 0, .slice none 0 0] 30)).heap.size := by simp; omega
  have hxb := hx.ne h
  clear h hx ht hlf hleaf hS hok
  go_enter Tryz.func169, Tryz.ntmps169
  go_wp2_with (first | (go_at_call 83; refine (HP.out _ H0.out).mono ?_; rintro e w1 ⟨rfl, hb⟩; have HB := Lib.hid hb; have H1 := Lib.hid (H0.out.below hb); have HE1 := Lib.hid (HE0.out.kept (grown_below hb none) (by simp)); have HX1 := Lib.hid ((HX.out.kept (World.grownBy_alloc w _ none) (by simp)).kept (grown_below hb none) (by simp)); have cx1 := HX1.out.c; have hz1 : w.heap.size < w1.heap.size := (by have := hb.size; simp at this; omega); clear hb) | (go_at_call 119; refine (HL.out _ H1.out).mono ?_; rintro e w2 ⟨rfl, hw⟩; have HW := Lib.hid hw; have HE2 := Lib.hid (HE1.out.kept hw.2 (by simp; omega)); have e0 := HE2.out.c0; have e1 := HE2.out.c1; have e2 := HE2.out.c2; have e3 := HE2.out.c3; have e4 := HE2.out.c4; have e5 := HE2.out.c5; have e6 := HE2.out.c6; have r0 := HE2.out.fr 0; have r1 := HE2.out.fr 1; have r2 := HE2.out.fr 2; have r3 := HE2.out.fr 3; have r4 := HE2.out.fr 4; have r5 := HE2.out.fr 5; have r6 := HE2.out.fr 6; clear hw))
  exact bodyPost_ret (res_atom1 rfl (HE2.out.all (.int .i64 1) (.int .i64 tn) (.string ⟨#[]⟩) (.string ⟨#[]⟩) (.slice none 0 0) (.slice none 0 0) (.slice none 0 0))) rfl
    ⟨1, tn, ⟨#[]⟩, ⟨#[]⟩, none, 0, 0, none, 0, 0, none, 0, 0, rfl, HS.out _ _, HW.out.1.kept (set7_grown _ _ _ _ _ _ _ _ _) (by simp; omega) (by simp; omega),
      grown_7 (grown_trans (grown_trans (World.grownBy_alloc w _ _) (grown_below HB.out _)) HW.out.2) (Nat.le_refl _) _ _ _ _ _ _ _⟩
end Go.Proofs.YtbmicnajedeenaaGreatDoor
/- The parser: heads that are one token. -/
namespace Go.Proofs.YtbmicnajedeenaaGreatDoor
open Go.RowKit

theorem res_head {tmps : Array Value} {w : World} {g : Nat} {v0 v1 v2 v3 v4 v5 v6 : Value} (h2 : tmps.getD 2 undef = .pointer (some ⟨g, 0, none⟩)) (h : EB w g v0 v1 v2 v3 v4 v5 v6) :
    (results Tryz.f149 tmps).run Tryz.prog w = .ok (.agg #[v0, v1, v2, v3, v4, v5, v6]) w := by
  have c0 := h.c0
  have c1 := h.c1
  have c2 := h.c2
  have c3 := h.c3
  have c4 := h.c4
  have c5 := h.c5
  have c6 := h.c6
  have h2' : tmps[2]?.getD undef = .pointer (some ⟨g, 0, none⟩) := by simpa using h2
  simp [results, Tryz.results149, go_sem, h2', c0, c1, c2, c3, c4, c5, c6]
section
variable {P : Program} {ops : Array Oper} {Q : Exit → Act → World → Prop} {md : Region.Mode}
/-- one operation of a region that draws its order, taken first; the frame written out -/
theorem take1 {i : Nat} {oi : Oper} {d : Tmp} {v : Value} {fuel : Nat} {listed : Array Bool} {T : Array Value} {D : List Deferred} {w : World} (hi : ops[i]? = some oi) (hd : oi.dst = some d)
    (hs : Region.noSelect ops = true) (hf : Region.free md ops listed i = true) (hr : (Region.ready md ops listed).contains i = true)
    (hQ : ∀ c a w, Q (.panic c) (a.put oi.dst v) w → Q (.panic c) a w) (hy : Yields P ops oi v { tmps := T, defers := D })
    (h : wpAny P md ops Q fuel (listed.setIfInBounds i true) { tmps := T.setIfInBounds d v, defers := D } w) : wpAny P md ops Q (fuel + 1) listed { tmps := T, defers := D } w :=
  wpAny_take hi hs hf hr hQ hy (by rw [hd]; exact h)
end
theorem Below.grownBy' {w w' : World} {row : Option Nat} (h : w.grownBy w' none) : w.grownBy w' row := ⟨h.os, h.tape, h.output, h.size, fun k hk _ => h.block k hk (by simp)⟩
/-- a token that is no word of a head -/
def NoHead (t : Rt) : Prop := t.s ≠ [100, 111] ∧ t.s ≠ [109, 97, 115, 107] ∧ t.s ≠ [114, 101, 115, 117, 109, 101] ∧ t.s ≠ [100, 114, 111, 112]

set_option maxRecDepth 100000 in
set_option maxHeartbeats 2000000 in
theorem head_int (b g go c : Nat) (ts : List Rt) (nx dp : Nat) (t : Rt) (w : World) (h : PS w b g go c ts nx dp) (ht : ts[nx]? = some t) (hk : t.k = 3) (hn : NoHead t)
    (HA : Hid (∀ w', PS w' b g go c ts nx dp → Calls Tryz.prog 151 #[.pointer (some ⟨b, 0, none⟩)] w' (ExprTo w' b g go c ts (nx + 1) dp (leafOf t)))) :
    Calls Tryz.prog 149 #[.pointer (some ⟨b, 0, none⟩)] w (ExprTo w b g go c ts (nx + 1) dp (leafOf t)) := by
  have hbl := h.blt
  have hgl := h.lt
  have HP := Lib.hid (fun w h => peek_any b g go c ts nx dp t w h ht)
  have HS : Hid (∀ (s : ByteArray) w, PS w b g go c ts nx dp → t.s ≠ s.data.toList → Calls Tryz.prog 148 #[.pointer (some ⟨b, 0, none⟩), .string s] w fun e w' => e = .returned (.bool false) ∧ Below w.heap.size w w') := fun s w h h2 => skip_no b g go c ts nx dp t s w h ht h2
  have HN := Lib.hid hn
  have H := Lib.hid h
  have fl0 := tfield0
  obtain ⟨lf, hlf⟩ : ∃ lf, lf = leafOf t := ⟨_, rfl⟩
  rw [← hlf] at HA ⊢
  obtain ⟨tk, tss, tn, tp⟩ := t
  simp only at hk HP HS HN
  subst hk
  obtain ⟨S, hS⟩ : ∃ S, S = strB tss := ⟨_, rfl⟩
  rw [← hS] at HP
  clear h ht hn hlf hS
  go_enter Tryz.func149, Tryz.ntmps149
  go_wp2_with fail
  have H1 : Hid (PS (w.alloc (.cells #[.int .i64 0, .int .i64 0, .string ⟨#[]⟩, .string ⟨#[]⟩, .slice none 0 0, .slice none 0 0, .slice none 0 0] 30)) b g go c ts nx dp) := H.out.below ((Below.refl _ _).alloc (Nat.le_refl _) _)
  have HE1 := Lib.hid (EB.new w (.int .i64 0) (.int .i64 0) (.string ⟨#[]⟩) (.string ⟨#[]⟩) (.slice none 0 0) (.slice none 0 0) (.slice none 0 0))
  have HG1 : Hid (w.grownBy _ none) := World.grownBy_alloc w (.cells #[.int .i64 0, .int .i64 0, .string ⟨#[]⟩, .string ⟨#[]⟩, .slice none 0 0, .slice none 0 0, .slice none 0 0] 30) none
  refine (HS.out _ _ H1.out HN.out.1).mono ?_; rintro e w2 ⟨rfl, hb⟩
  have H2 := Lib.hid (H1.out.below hb)
  have HE2 := Lib.hid (HE1.out.kept (grown_below hb none) (by simp))
  have HG2 := Lib.hid (grown_trans HG1.out (grown_below hb none))
  clear hb H1 HE1 HG1
  go_wp2_with fail
  refine (HS.out _ _ H2.out HN.out.2.1).mono ?_; rintro e w3 ⟨rfl, hb⟩
  have H3 := Lib.hid (H2.out.below hb)
  have HE3 := Lib.hid (HE2.out.kept (grown_below hb none) (by simp))
  have HG3 := Lib.hid (grown_trans HG2.out (grown_below hb none))
  clear hb H2 HE2 HG2
  go_wp2_with fail
  refine (HS.out _ _ H3.out HN.out.2.2.1).mono ?_; rintro e w4 ⟨rfl, hb⟩
  have H4 := Lib.hid (H3.out.below hb)
  have HE4 := Lib.hid (HE3.out.kept (grown_below hb none) (by simp))
  have HG4 := Lib.hid (grown_trans HG3.out (grown_below hb none))
  clear hb H3 HE3 HG3
  go_wp2_with fail
  refine (HS.out _ _ H4.out HN.out.2.2.2).mono ?_; rintro e w5 ⟨rfl, hb⟩
  have H5 := Lib.hid (H4.out.below hb)
  have HE5 := Lib.hid (HE4.out.kept (grown_below hb none) (by simp))
  have HG5 := Lib.hid (grown_trans HG4.out (grown_below hb none))
  clear hb H4 HE4 HG4
  go_wp2_with fail
  refine wp_region_any (by kernel_rfl) ?_
  change wpAny _ _ _ _ _ _ _ (World.drew _)
  refine take1 (i := 0) (d := 58) (v := .pointer (some ⟨b, 0, none⟩)) rfl rfl (by kernel_rfl) (by kernel_rfl) (by kernel_rfl) (fun _ _ _ h => h) (Or.inl ⟨by kernel_rfl, fun _ => by kernel_rfl⟩) ?_
  refine take1 (i := 1) (d := 59) (v := .pointer (some ⟨b, 0, none⟩)) rfl rfl (by kernel_rfl) (by kernel_rfl) (by kernel_rfl) (fun _ _ _ h => h) (Or.inl ⟨by kernel_rfl, fun _ => by kernel_rfl⟩) ?_
  refine take1 (i := 2) (d := 60) (v := .pointer (some ⟨b, 0, none⟩)) rfl rfl (by kernel_rfl) (by kernel_rfl) (by kernel_rfl) (fun _ _ _ h => h) (Or.inl ⟨by kernel_rfl, fun _ => by kernel_rfl⟩) ?_
  refine wpAny_ready (rs := [3]) (by kernel_rfl) (by simp) (AllReady.cons rfl (fun K hK => ?_) AllReady.nil)
  go_simp
  refine (HP.out _ (H5.out.drewN 1)).mono ?_; rintro e w6 ⟨rfl, hb⟩
  have H6 := Lib.hid ((H5.out.drewN 1).below hb)
  have HE6 := Lib.hid (HE5.out.kept (grown_trans (grown_drewN w5 1 none) (grown_below hb none)) (by simp))
  have HG6 := Lib.hid (grown_trans HG5.out (grown_trans (grown_drewN w5 1 none) (grown_below hb none)))
  clear hb
  refine hK _ _ ?_
  clear hK K
  refine take1 (i := 4) (d := 62) (v := .int .i64 3) rfl rfl (by kernel_rfl) (by kernel_rfl) (by kernel_rfl) (fun _ _ _ h => h) (Or.inl ⟨by kernel_rfl, fun _ => by kernel_rfl⟩) ?_
  refine take1 (i := 5) (d := 63) (v := .bool false) rfl rfl (by kernel_rfl) (by kernel_rfl) (by kernel_rfl) (fun _ _ _ h => h) (Or.inl ⟨by kernel_rfl, fun _ => by kernel_rfl⟩) ?_
  refine take1 (i := 6) (d := 64) (v := .bool false) rfl rfl (by kernel_rfl) (by kernel_rfl) (by kernel_rfl) (fun _ _ _ h => h) (Or.inl ⟨by kernel_rfl, fun _ => by kernel_rfl⟩) ?_
  refine take1 (i := 7) (d := 65) (v := undef) rfl rfl (by kernel_rfl) (by kernel_rfl) (by kernel_rfl) (fun _ _ _ h => h) (Or.inr ⟨by kernel_rfl, rfl⟩) ?_
  refine take1 (i := 8) (d := 66) (v := undef) rfl rfl (by kernel_rfl) (by kernel_rfl) (by kernel_rfl) (fun _ _ _ h => h) (Or.inr ⟨by kernel_rfl, rfl⟩) ?_
  refine take1 (i := 9) (d := 67) (v := undef) rfl rfl (by kernel_rfl) (by kernel_rfl) (by kernel_rfl) (fun _ _ _ h => h) (Or.inr ⟨by kernel_rfl, rfl⟩) ?_
  refine take1 (i := 10) (d := 68) (v := undef) rfl rfl (by kernel_rfl) (by kernel_rfl) (by kernel_rfl) (fun _ _ _ h => h) (Or.inr ⟨by kernel_rfl, rfl⟩) ?_
  refine take1 (i := 11) (d := 69) (v := undef) rfl rfl (by kernel_rfl) (by kernel_rfl) (by kernel_rfl) (fun _ _ _ h => h) (Or.inr ⟨by kernel_rfl, rfl⟩) ?_
  refine take1 (i := 12) (d := 70) (v := undef) rfl rfl (by kernel_rfl) (by kernel_rfl) (by kernel_rfl) (fun _ _ _ h => h) (Or.inr ⟨by kernel_rfl, rfl⟩) ?_
  refine take1 (i := 13) (d := 71) (v := undef) rfl rfl (by kernel_rfl) (by kernel_rfl) (by kernel_rfl) (fun _ _ _ h => h) (Or.inr ⟨by kernel_rfl, rfl⟩) ?_
  refine take1 (i := 14) (d := 72) (v := undef) rfl rfl (by kernel_rfl) (by kernel_rfl) (by kernel_rfl) (fun _ _ _ h => h) (Or.inr ⟨by kernel_rfl, rfl⟩) ?_
  refine take1 (i := 15) (d := 73) (v := undef) rfl rfl (by kernel_rfl) (by kernel_rfl) (by kernel_rfl) (fun _ _ _ h => h) (Or.inr ⟨by kernel_rfl, rfl⟩) ?_
  refine take1 (i := 16) (d := 74) (v := undef) rfl rfl (by kernel_rfl) (by kernel_rfl) (by kernel_rfl) (fun _ _ _ h => h) (Or.inr ⟨by kernel_rfl, rfl⟩) ?_
  refine take1 (i := 17) (d := 75) (v := undef) rfl rfl (by kernel_rfl) (by kernel_rfl) (by kernel_rfl) (fun _ _ _ h => h) (Or.inr ⟨by kernel_rfl, rfl⟩) ?_
  refine take1 (i := 18) (d := 76) (v := undef) rfl rfl (by kernel_rfl) (by kernel_rfl) (by kernel_rfl) (fun _ _ _ h => h) (Or.inr ⟨by kernel_rfl, rfl⟩) ?_
  refine take1 (i := 19) (d := 77) (v := undef) rfl rfl (by kernel_rfl) (by kernel_rfl) (by kernel_rfl) (fun _ _ _ h => h) (Or.inr ⟨by kernel_rfl, rfl⟩) ?_
  refine take1 (i := 20) (d := 78) (v := undef) rfl rfl (by kernel_rfl) (by kernel_rfl) (by kernel_rfl) (fun _ _ _ h => h) (Or.inr ⟨by kernel_rfl, rfl⟩) ?_
  refine take1 (i := 21) (d := 79) (v := undef) rfl rfl (by kernel_rfl) (by kernel_rfl) (by kernel_rfl) (fun _ _ _ h => h) (Or.inr ⟨by kernel_rfl, rfl⟩) ?_
  refine take1 (i := 22) (d := 80) (v := .bool false) rfl rfl (by kernel_rfl) (by kernel_rfl) (by kernel_rfl) (fun _ _ _ h => h) (Or.inl ⟨by kernel_rfl, fun _ => by kernel_rfl⟩) ?_
  refine take1 (i := 23) (d := 57) (v := .bool false) rfl rfl (by kernel_rfl) (by kernel_rfl) (by kernel_rfl) (fun _ _ _ h => h) (Or.inl ⟨by kernel_rfl, fun _ => by kernel_rfl⟩) ?_
  refine wpAny_done (by kernel_rfl) ?_ _
  simp only [List.setIfInBounds_toArray, List.set_cons_succ, List.set_cons_zero]
  go_wp2_with fail
  refine (HA.out _ H6.out).mono ?_
  rintro e w7 ⟨k, n, s, t, A0, n0, m0, A1, n1, m1, A2, n2, m2, rfl, hr, hw⟩
  have HR := Lib.hid hr
  have HP7 := Lib.hid hw.1
  have HG7 : Hid (w.grownBy w7 (some b)) := grown_trans (Below.grownBy' HG6.out) hw.2
  have hz6 : w.heap.size < w6.heap.size := HE6.out.lt
  have HE7 := Lib.hid (HE6.out.kept hw.2 (by simp; omega))
  have e0 := HE7.out.c0
  have e1 := HE7.out.c1
  have e2 := HE7.out.c2
  have e3 := HE7.out.c3
  have e4 := HE7.out.c4
  have e5 := HE7.out.c5
  have e6 := HE7.out.c6
  have r0 := HE7.out.fr 0
  have r1 := HE7.out.fr 1
  have r2 := HE7.out.fr 2
  have r3 := HE7.out.fr 3
  have r4 := HE7.out.fr 4
  have r5 := HE7.out.fr 5
  have r6 := HE7.out.fr 6
  clear hr hw HA
  go_wp2_with fail
  exact bodyPost_ret (res_head rfl (HE7.out.all (.int .i64 k) (.int .i64 n) (.string s) (.string t) (.slice A0 n0 m0) (.slice A1 n1 m1) (.slice A2 n2 m2))) rfl
    ⟨k, n, s, t, A0, n0, m0, A1, n1, m1, A2, n2, m2, rfl, (HR.out.keep (Same.of_grown (set7_grown _ _ _ _ _ _ _ _ _) (fun x hx => by simp; omega))).weaken (fun x hx => by omega),
      HP7.out.kept (set7_grown _ _ _ _ _ _ _ _ _) (by simp; omega) (by simp; omega), grown_7 HG7.out (Nat.le_refl _) _ _ _ _ _ _ _⟩
set_option maxRecDepth 100000 in
set_option maxHeartbeats 2000000 in
theorem head_var (b g go c : Nat) (ts : List Rt) (nx dp : Nat) (t : Rt) (w : World) (h : PS w b g go c ts nx dp) (ht : ts[nx]? = some t) (hk : t.k = 0) (hn : NoHead t) (t2 : Rt) (ht2 : ts[nx + 1]? = some t2) (hd : t2.s ≠ [46]) (hlen : ts.length ≤ 100000)
    (HA : Hid (∀ w', PS w' b g go c ts nx dp → Calls Tryz.prog 151 #[.pointer (some ⟨b, 0, none⟩)] w' (ExprTo w' b g go c ts (nx + 1) dp (leafOf t)))) :
    Calls Tryz.prog 149 #[.pointer (some ⟨b, 0, none⟩)] w (ExprTo w b g go c ts (nx + 1) dp (leafOf t)) := by
  have hbl := h.blt
  have hgl := h.lt
  have HP := Lib.hid (fun w h => peek_any b g go c ts nx dp t w h ht)
  have HS : Hid (∀ (s : ByteArray) w, PS w b g go c ts nx dp → t.s ≠ s.data.toList → Calls Tryz.prog 148 #[.pointer (some ⟨b, 0, none⟩), .string s] w fun e w' => e = .returned (.bool false) ∧ Below w.heap.size w w') := fun s w h h2 => skip_no b g go c ts nx dp t s w h ht h2
  have HN := Lib.hid hn
  obtain ⟨T, hT⟩ : ∃ T, T = strB t2.s := ⟨_, rfl⟩
  have hT2 : (T.toList == [46]) = false := by rw [hT, ByteArray.toList_eq, data_strB]; simpa using hd
  have HD : Hid (∀ w, PS w b g go c ts nx dp → w.cell? ⟨g, go + (nx + 1) * 4 + 1, none⟩ = some (.string T)) := fun w h => by rw [hT]; exact h.tok _ _ ht2 1 _ rfl
  have hlt2 := (List.getElem?_eq_some_iff.1 ht2).1
  have i0 : (0 : Int) ≤ (nx : Int) + 1 := by omega
  have i1 : (nx : Int) + 1 < (ts.length : Int) := by omega
  have i2 : ((nx : Int) + 1).toNat = nx + 1 := by omega
  have i3 : (nx : Int) + 1 ≤ 100000 := by omega
  clear hT hd ht2 hlt2
  have H := Lib.hid h
  have fl0 := tfield0
  obtain ⟨lf, hlf⟩ : ∃ lf, lf = leafOf t := ⟨_, rfl⟩
  rw [← hlf] at HA ⊢
  obtain ⟨tk, tss, tn, tp⟩ := t
  simp only at hk HP HS HN
  subst hk
  obtain ⟨S, hS⟩ : ∃ S, S = strB tss := ⟨_, rfl⟩
  rw [← hS] at HP
  clear h ht hn hlf hS
  go_enter Tryz.func149, Tryz.ntmps149
  go_wp2_with fail
  have H1 : Hid (PS (w.alloc (.cells #[.int .i64 0, .int .i64 0, .string ⟨#[]⟩, .string ⟨#[]⟩, .slice none 0 0, .slice none 0 0, .slice none 0 0] 30)) b g go c ts nx dp) := H.out.below ((Below.refl _ _).alloc (Nat.le_refl _) _)
  have HE1 := Lib.hid (EB.new w (.int .i64 0) (.int .i64 0) (.string ⟨#[]⟩) (.string ⟨#[]⟩) (.slice none 0 0) (.slice none 0 0) (.slice none 0 0))
  have HG1 : Hid (w.grownBy _ none) := World.grownBy_alloc w (.cells #[.int .i64 0, .int .i64 0, .string ⟨#[]⟩, .string ⟨#[]⟩, .slice none 0 0, .slice none 0 0, .slice none 0 0] 30) none
  refine (HS.out _ _ H1.out HN.out.1).mono ?_; rintro e w2 ⟨rfl, hb⟩
  have H2 := Lib.hid (H1.out.below hb)
  have HE2 := Lib.hid (HE1.out.kept (grown_below hb none) (by simp))
  have HG2 := Lib.hid (grown_trans HG1.out (grown_below hb none))
  clear hb H1 HE1 HG1
  go_wp2_with fail
  refine (HS.out _ _ H2.out HN.out.2.1).mono ?_; rintro e w3 ⟨rfl, hb⟩
  have H3 := Lib.hid (H2.out.below hb)
  have HE3 := Lib.hid (HE2.out.kept (grown_below hb none) (by simp))
  have HG3 := Lib.hid (grown_trans HG2.out (grown_below hb none))
  clear hb H2 HE2 HG2
  go_wp2_with fail
  refine (HS.out _ _ H3.out HN.out.2.2.1).mono ?_; rintro e w4 ⟨rfl, hb⟩
  have H4 := Lib.hid (H3.out.below hb)
  have HE4 := Lib.hid (HE3.out.kept (grown_below hb none) (by simp))
  have HG4 := Lib.hid (grown_trans HG3.out (grown_below hb none))
  clear hb H3 HE3 HG3
  go_wp2_with fail
  refine (HS.out _ _ H4.out HN.out.2.2.2).mono ?_; rintro e w5 ⟨rfl, hb⟩
  have H5 := Lib.hid (H4.out.below hb)
  have HE5 := Lib.hid (HE4.out.kept (grown_below hb none) (by simp))
  have HG5 := Lib.hid (grown_trans HG4.out (grown_below hb none))
  clear hb H4 HE4 HG4
  go_wp2_with fail
  refine wp_region_any (by kernel_rfl) ?_
  change wpAny _ _ _ _ _ _ _ (World.drew _)
  refine take1 (i := 0) (d := 58) (v := .pointer (some ⟨b, 0, none⟩)) rfl rfl (by kernel_rfl) (by kernel_rfl) (by kernel_rfl) (fun _ _ _ h => h) (Or.inl ⟨by kernel_rfl, fun _ => by kernel_rfl⟩) ?_
  refine take1 (i := 1) (d := 59) (v := .pointer (some ⟨b, 0, none⟩)) rfl rfl (by kernel_rfl) (by kernel_rfl) (by kernel_rfl) (fun _ _ _ h => h) (Or.inl ⟨by kernel_rfl, fun _ => by kernel_rfl⟩) ?_
  refine take1 (i := 2) (d := 60) (v := .pointer (some ⟨b, 0, none⟩)) rfl rfl (by kernel_rfl) (by kernel_rfl) (by kernel_rfl) (fun _ _ _ h => h) (Or.inl ⟨by kernel_rfl, fun _ => by kernel_rfl⟩) ?_
  refine wpAny_ready (rs := [3]) (by kernel_rfl) (by simp) (AllReady.cons rfl (fun K hK => ?_) AllReady.nil)
  go_simp
  refine (HP.out _ (H5.out.drewN 1)).mono ?_; rintro e w6 ⟨rfl, hb⟩
  have H6 := Lib.hid ((H5.out.drewN 1).below hb)
  have HE6 := Lib.hid (HE5.out.kept (grown_trans (grown_drewN w5 1 none) (grown_below hb none)) (by simp))
  have HG6 := Lib.hid (grown_trans HG5.out (grown_trans (grown_drewN w5 1 none) (grown_below hb none)))
  clear hb
  refine hK _ _ ?_
  clear hK K
  have c0 := H6.out.c0
  have c1 := H6.out.c1
  have d1 := HD.out _ H6.out
  have hwrap : IntKind.i64.wrap ((nx : Int) + 1) = (nx : Int) + 1 := IntWalk.i64_in _ (by omega)
  refine take1 (i := 4) (d := 62) (v := .int .i64 0) rfl rfl (by kernel_rfl) (by kernel_rfl) (by kernel_rfl) (fun _ _ _ h => h) (Or.inl ⟨by kernel_rfl, fun _ => by kernel_rfl⟩) ?_
  refine take1 (i := 5) (d := 63) (v := .bool true) rfl rfl (by kernel_rfl) (by kernel_rfl) (by kernel_rfl) (fun _ _ _ h => h) (Or.inl ⟨by kernel_rfl, fun _ => by kernel_rfl⟩) ?_
  refine take1 (i := 6) (d := 64) (v := .bool true) rfl rfl (by kernel_rfl) (by kernel_rfl) (by kernel_rfl) (fun _ _ _ h => h) (Or.inl ⟨by kernel_rfl, fun _ => by kernel_rfl⟩) ?_
  refine take1 (i := 7) (d := 65) (v := .pointer (some ⟨b, 0, none⟩)) rfl rfl (by kernel_rfl) (by kernel_rfl) (by kernel_rfl) (fun _ _ _ h => h) (Or.inl ⟨by kernel_rfl, fun _ => by kernel_rfl⟩) ?_
  refine take1 (i := 8) (d := 66) (v := .pointer (some ⟨b, 0, none⟩)) rfl rfl (by kernel_rfl) (by kernel_rfl) (by kernel_rfl) (fun _ _ _ h => h) (Or.inl ⟨by kernel_rfl, fun _ => by kernel_rfl⟩) ?_
  refine take1 (i := 9) (d := 67) (v := .pointer (some ⟨b, 0, none⟩)) rfl rfl (by kernel_rfl) (by kernel_rfl) (by kernel_rfl) (fun _ _ _ h => h) (Or.inl ⟨by kernel_rfl, fun _ => by kernel_rfl⟩) ?_
  refine take1 (i := 10) (d := 68) (v := .pointer (some ⟨b, 0, none⟩)) rfl rfl (by kernel_rfl) (by kernel_rfl) (by kernel_rfl) (fun _ _ _ h => h) (Or.inl ⟨by kernel_rfl, fun _ => by kernel_rfl⟩) ?_
  refine take1 (i := 12) (d := 70) (v := .pointer (some ⟨b, 0, none⟩)) rfl rfl (by kernel_rfl) (by kernel_rfl) (by kernel_rfl) (fun _ _ _ h => h) (Or.inl ⟨by kernel_rfl, fun _ => by kernel_rfl⟩) ?_
  refine take1 (i := 13) (d := 71) (v := .pointer (some ⟨b, 0, none⟩)) rfl rfl (by kernel_rfl) (by kernel_rfl) (by kernel_rfl) (fun _ _ _ h => h) (Or.inl ⟨by kernel_rfl, fun _ => by kernel_rfl⟩) ?_
  refine take1 (i := 14) (d := 72) (v := .pointer (some ⟨b, 0, none⟩)) rfl rfl (by kernel_rfl) (by kernel_rfl) (by kernel_rfl) (fun _ _ _ h => h) (Or.inl ⟨by kernel_rfl, fun _ => by kernel_rfl⟩) ?_
  refine take1 (i := 15) (d := 73) (v := .pointer (some ⟨b, 1, none⟩)) rfl rfl (by kernel_rfl) (by kernel_rfl) (by kernel_rfl) (fun _ _ _ h => h) (Or.inl ⟨by kernel_rfl, fun _ => by kernel_rfl⟩) ?_
  simp only [List.setIfInBounds_toArray, List.set_cons_succ, List.set_cons_zero]
  refine wpAny_ready (rs := [11, 16]) (by kernel_rfl) (by simp) (AllReady.cons rfl (fun K hK => ?_) (AllReady.cons rfl (fun K hK => ?_) AllReady.nil))
  all_goals
    go_simp
    refine hK _ _ ?_
    clear hK K
  · refine wpAny_ready (rs := [16]) (by kernel_rfl) (by simp) (AllReady.cons rfl (fun K hK => ?_) AllReady.nil)
    go_simp
    refine hK _ _ ?_
    clear hK K
    refine wpAny_ready (rs := [17]) (by kernel_rfl) (by simp) (AllReady.cons rfl (fun K hK => ?_) AllReady.nil)
    go_simp
    refine hK _ _ ?_
    clear hK K
    refine wpAny_ready (rs := [18]) (by kernel_rfl) (by simp) (AllReady.cons rfl (fun K hK => ?_) AllReady.nil)
    go_simp
    refine hK _ _ ?_
    clear hK K
    refine wpAny_ready (rs := [19]) (by kernel_rfl) (by simp) (AllReady.cons rfl (fun K hK => ?_) AllReady.nil)
    go_simp
    refine hK _ _ ?_
    clear hK K
    refine wpAny_ready (rs := [20]) (by kernel_rfl) (by simp) (AllReady.cons rfl (fun K hK => ?_) AllReady.nil)
    go_simp
    refine hK _ _ ?_
    clear hK K
    refine wpAny_ready (rs := [21]) (by kernel_rfl) (by simp) (AllReady.cons rfl (fun K hK => ?_) AllReady.nil)
    go_simp
    refine hK _ _ ?_
    clear hK K
    refine wpAny_ready (rs := [22]) (by kernel_rfl) (by simp) (AllReady.cons rfl (fun K hK => ?_) AllReady.nil)
    go_simp
    refine hK _ _ ?_
    clear hK K
    refine wpAny_ready (rs := [23]) (by kernel_rfl) (by simp) (AllReady.cons rfl (fun K hK => ?_) AllReady.nil)
    go_simp
    refine hK _ _ ?_
    clear hK K
    clear hwrap i0 i1 i2 i3 c0 c1 d1 fl0
    refine wpAny_done (by kernel_rfl) ?_ _
    go_wp2_with fail
    refine (HA.out _ H6.out).mono ?_
    rintro e w7 ⟨k, n, s, t, A0, n0, m0, A1, n1, m1, A2, n2, m2, rfl, hr, hw⟩
    have HR := Lib.hid hr
    have HP7 := Lib.hid hw.1
    have HG7 : Hid (w.grownBy w7 (some b)) := grown_trans (Below.grownBy' HG6.out) hw.2
    have hz6 : w.heap.size < w6.heap.size := HE6.out.lt
    have HE7 := Lib.hid (HE6.out.kept hw.2 (by simp; omega))
    have e0 := HE7.out.c0
    have e1 := HE7.out.c1
    have e2 := HE7.out.c2
    have e3 := HE7.out.c3
    have e4 := HE7.out.c4
    have e5 := HE7.out.c5
    have e6 := HE7.out.c6
    have r0 := HE7.out.fr 0
    have r1 := HE7.out.fr 1
    have r2 := HE7.out.fr 2
    have r3 := HE7.out.fr 3
    have r4 := HE7.out.fr 4
    have r5 := HE7.out.fr 5
    have r6 := HE7.out.fr 6
    clear hr hw HA
    go_wp2_with fail
    exact bodyPost_ret (res_head rfl (HE7.out.all (.int .i64 k) (.int .i64 n) (.string s) (.string t) (.slice A0 n0 m0) (.slice A1 n1 m1) (.slice A2 n2 m2))) rfl
      ⟨k, n, s, t, A0, n0, m0, A1, n1, m1, A2, n2, m2, rfl, (HR.out.keep (Same.of_grown (set7_grown _ _ _ _ _ _ _ _ _) (fun x hx => by simp; omega))).weaken (fun x hx => by omega),
        HP7.out.kept (set7_grown _ _ _ _ _ _ _ _ _) (by simp; omega) (by simp; omega), grown_7 HG7.out (Nat.le_refl _) _ _ _ _ _ _ _⟩
  · refine wpAny_ready (rs := [11, 17]) (by kernel_rfl) (by simp) (AllReady.cons rfl (fun K hK => ?_) (AllReady.cons rfl (fun K hK => ?_) AllReady.nil))
    all_goals
      go_simp
      refine hK _ _ ?_
      clear hK K
    · refine wpAny_ready (rs := [17]) (by kernel_rfl) (by simp) (AllReady.cons rfl (fun K hK => ?_) AllReady.nil)
      go_simp
      refine hK _ _ ?_
      clear hK K
      refine wpAny_ready (rs := [18]) (by kernel_rfl) (by simp) (AllReady.cons rfl (fun K hK => ?_) AllReady.nil)
      go_simp
      refine hK _ _ ?_
      clear hK K
      refine wpAny_ready (rs := [19]) (by kernel_rfl) (by simp) (AllReady.cons rfl (fun K hK => ?_) AllReady.nil)
      go_simp
      refine hK _ _ ?_
      clear hK K
      refine wpAny_ready (rs := [20]) (by kernel_rfl) (by simp) (AllReady.cons rfl (fun K hK => ?_) AllReady.nil)
      go_simp
      refine hK _ _ ?_
      clear hK K
      refine wpAny_ready (rs := [21]) (by kernel_rfl) (by simp) (AllReady.cons rfl (fun K hK => ?_) AllReady.nil)
      go_simp
      refine hK _ _ ?_
      clear hK K
      refine wpAny_ready (rs := [22]) (by kernel_rfl) (by simp) (AllReady.cons rfl (fun K hK => ?_) AllReady.nil)
      go_simp
      refine hK _ _ ?_
      clear hK K
      refine wpAny_ready (rs := [23]) (by kernel_rfl) (by simp) (AllReady.cons rfl (fun K hK => ?_) AllReady.nil)
      go_simp
      refine hK _ _ ?_
      clear hK K
      clear hwrap i0 i1 i2 i3 c0 c1 d1 fl0
      refine wpAny_done (by kernel_rfl) ?_ _
      go_wp2_with fail
      refine (HA.out _ H6.out).mono ?_
      rintro e w7 ⟨k, n, s, t, A0, n0, m0, A1, n1, m1, A2, n2, m2, rfl, hr, hw⟩
      have HR := Lib.hid hr
      have HP7 := Lib.hid hw.1
      have HG7 : Hid (w.grownBy w7 (some b)) := grown_trans (Below.grownBy' HG6.out) hw.2
      have hz6 : w.heap.size < w6.heap.size := HE6.out.lt
      have HE7 := Lib.hid (HE6.out.kept hw.2 (by simp; omega))
      have e0 := HE7.out.c0
      have e1 := HE7.out.c1
      have e2 := HE7.out.c2
      have e3 := HE7.out.c3
      have e4 := HE7.out.c4
      have e5 := HE7.out.c5
      have e6 := HE7.out.c6
      have r0 := HE7.out.fr 0
      have r1 := HE7.out.fr 1
      have r2 := HE7.out.fr 2
      have r3 := HE7.out.fr 3
      have r4 := HE7.out.fr 4
      have r5 := HE7.out.fr 5
      have r6 := HE7.out.fr 6
      clear hr hw HA
      go_wp2_with fail
      exact bodyPost_ret (res_head rfl (HE7.out.all (.int .i64 k) (.int .i64 n) (.string s) (.string t) (.slice A0 n0 m0) (.slice A1 n1 m1) (.slice A2 n2 m2))) rfl
        ⟨k, n, s, t, A0, n0, m0, A1, n1, m1, A2, n2, m2, rfl, (HR.out.keep (Same.of_grown (set7_grown _ _ _ _ _ _ _ _ _) (fun x hx => by simp; omega))).weaken (fun x hx => by omega),
          HP7.out.kept (set7_grown _ _ _ _ _ _ _ _ _) (by simp; omega) (by simp; omega), grown_7 HG7.out (Nat.le_refl _) _ _ _ _ _ _ _⟩
    · refine wpAny_ready (rs := [11]) (by kernel_rfl) (by simp) (AllReady.cons rfl (fun K hK => ?_) AllReady.nil)
      go_simp
      refine hK _ _ ?_
      clear hK K
      refine wpAny_ready (rs := [18]) (by kernel_rfl) (by simp) (AllReady.cons rfl (fun K hK => ?_) AllReady.nil)
      go_simp
      refine hK _ _ ?_
      clear hK K
      refine wpAny_ready (rs := [19]) (by kernel_rfl) (by simp) (AllReady.cons rfl (fun K hK => ?_) AllReady.nil)
      go_simp
      refine hK _ _ ?_
      clear hK K
      refine wpAny_ready (rs := [20]) (by kernel_rfl) (by simp) (AllReady.cons rfl (fun K hK => ?_) AllReady.nil)
      go_simp
      refine hK _ _ ?_
      clear hK K
      refine wpAny_ready (rs := [21]) (by kernel_rfl) (by simp) (AllReady.cons rfl (fun K hK => ?_) AllReady.nil)
      go_simp
      refine hK _ _ ?_
      clear hK K
      refine wpAny_ready (rs := [22]) (by kernel_rfl) (by simp) (AllReady.cons rfl (fun K hK => ?_) AllReady.nil)
      go_simp
      refine hK _ _ ?_
      clear hK K
      refine wpAny_ready (rs := [23]) (by kernel_rfl) (by simp) (AllReady.cons rfl (fun K hK => ?_) AllReady.nil)
      go_simp
      refine hK _ _ ?_
      clear hK K
      clear hwrap i0 i1 i2 i3 c0 c1 d1 fl0
      refine wpAny_done (by kernel_rfl) ?_ _
      go_wp2_with fail
      refine (HA.out _ H6.out).mono ?_
      rintro e w7 ⟨k, n, s, t, A0, n0, m0, A1, n1, m1, A2, n2, m2, rfl, hr, hw⟩
      have HR := Lib.hid hr
      have HP7 := Lib.hid hw.1
      have HG7 : Hid (w.grownBy w7 (some b)) := grown_trans (Below.grownBy' HG6.out) hw.2
      have hz6 : w.heap.size < w6.heap.size := HE6.out.lt
      have HE7 := Lib.hid (HE6.out.kept hw.2 (by simp; omega))
      have e0 := HE7.out.c0
      have e1 := HE7.out.c1
      have e2 := HE7.out.c2
      have e3 := HE7.out.c3
      have e4 := HE7.out.c4
      have e5 := HE7.out.c5
      have e6 := HE7.out.c6
      have r0 := HE7.out.fr 0
      have r1 := HE7.out.fr 1
      have r2 := HE7.out.fr 2
      have r3 := HE7.out.fr 3
      have r4 := HE7.out.fr 4
      have r5 := HE7.out.fr 5
      have r6 := HE7.out.fr 6
      clear hr hw HA
      go_wp2_with fail
      exact bodyPost_ret (res_head rfl (HE7.out.all (.int .i64 k) (.int .i64 n) (.string s) (.string t) (.slice A0 n0 m0) (.slice A1 n1 m1) (.slice A2 n2 m2))) rfl
        ⟨k, n, s, t, A0, n0, m0, A1, n1, m1, A2, n2, m2, rfl, (HR.out.keep (Same.of_grown (set7_grown _ _ _ _ _ _ _ _ _) (fun x hx => by simp; omega))).weaken (fun x hx => by omega),
          HP7.out.kept (set7_grown _ _ _ _ _ _ _ _ _) (by simp; omega) (by simp; omega), grown_7 HG7.out (Nat.le_refl _) _ _ _ _ _ _ _⟩
end Go.Proofs.YtbmicnajedeenaaGreatDoor
/- The parser: calls, operators. -/
namespace Go.Proofs.YtbmicnajedeenaaGreatDoor
open Go.RowKit

/-- a token at which no atom begins -/
def NoAtom (t : Rt) : Prop := (t.k ≠ 0 ∧ t.k ≠ 2 ∧ t.k ≠ 3) ∧ t.s ≠ [116, 114, 117, 101] ∧ t.s ≠ [102, 97, 108, 115, 101] ∧ t.s ≠ [40] ∧ t.s ≠ [109, 97, 116, 99, 104] ∧ t.s ≠ [104, 97, 110, 100, 108, 101] ∧ t.s ≠ [115, 104, 97, 108, 108, 111, 119] ∧ t.s ≠ [110, 97, 109, 101, 100]
theorem ne_list {a : List UInt8} {S : ByteArray} {l : List UInt8} (hS : S = strB a) (h : a ≠ l) : (S.toList == l) = false := by rw [hS, ByteArray.toList_eq, data_strB]; simpa using h
theorem eq_list {a : List UInt8} {S : ByteArray} {l : List UInt8} (hS : S = strB a) (h : a = l) : (S.toList == l) = true := by rw [hS, ByteArray.toList_eq, data_strB]; simpa using h
set_option maxRecDepth 100000 in
set_option maxHeartbeats 1000000 in
theorem isAtom_no (b g go c : Nat) (ts : List Rt) (nx dp : Nat) (t : Rt) (w : World) (h : PS w b g go c ts nx dp) (ht : ts[nx]? = some t) (hn : NoAtom t) :
    Calls Tryz.prog 150 #[.pointer (some ⟨b, 0, none⟩)] w fun e w' => e = .returned (.bool false) ∧ Below w.heap.size w w' := by
  have HP := Lib.hid (peek_any b g go c ts nx dp t w h ht)
  obtain ⟨⟨k0, k2, k3⟩, s1, s2, s3, s4, s5, s6, s7⟩ := hn
  obtain ⟨S, hS⟩ : ∃ S, S = strB t.s := ⟨_, rfl⟩
  rw [← hS] at HP
  have b0 : (t.k == 0) = false := beq_eq_false_iff_ne.2 k0
  have b2 : (t.k == 2) = false := beq_eq_false_iff_ne.2 k2
  have b3 : (t.k == 3) = false := beq_eq_false_iff_ne.2 k3
  have q1 := ne_list hS s1
  have q2 := ne_list hS s2
  have q3 := ne_list hS s3
  have q4 := ne_list hS s4
  have q5 := ne_list hS s5
  have q6 := ne_list hS s6
  have q7 := ne_list hS s7
  have hbl := h.blt
  clear s1 s2 s3 s4 s5 s6 s7 k0 k2 k3 h ht hS
  go_enter Tryz.func150, Tryz.ntmps150
  go_wp2_with (go_at_call 83; refine (HP.out).mono ?_; rintro e w' ⟨rfl, hb⟩; have HB := Lib.hid hb; clear hb)
  go_ret
  exact ⟨rfl, HB.out.alloc HB.out.size _⟩

/-- the level of an operator -/
def opLv (s : List UInt8) : Option Int := if s = [42] then some 3 else if s = [43] ∨ s = [45] then some 2 else if s = [60] ∨ s = [61, 61] then some 1 else none
def opRes (o : Option Int) : Ending := match o with
  | some l => .returned (.tuple #[.int .i64 l, .bool true])
  | none => .returned (.tuple #[.int .i64 0, .bool false])
set_option maxRecDepth 100000 in
set_option maxHeartbeats 1000000 in
theorem opLevel_any (s : List UInt8) (w : World) : Calls Tryz.prog 103 #[.string (strB s)] w fun e w' => e = opRes (opLv s) ∧ w = w' := by
  obtain ⟨S, hS⟩ : ∃ S, S = strB s := ⟨_, rfl⟩
  rw [← hS]
  by_cases h1 : s = [42]
  · have q1 := eq_list hS h1
    have HR := Lib.hid (show opRes (opLv s) = .returned (.tuple #[.int .i64 3, .bool true]) by unfold opLv; rw [if_pos h1]; rfl)
    clear hS h1
    go_enter Tryz.func103, Tryz.ntmps103
    go_wp2_with fail
    go_ret2
    exact ⟨by rw [HR.out]; rfl, rfl⟩
  have q1 := ne_list hS h1
  by_cases h2 : s = [43]
  · have q2 := eq_list hS h2
    have HR := Lib.hid (show opRes (opLv s) = .returned (.tuple #[.int .i64 2, .bool true]) by unfold opLv; rw [if_neg h1, if_pos (.inl h2)]; rfl)
    clear hS h1 h2
    go_enter Tryz.func103, Tryz.ntmps103
    go_wp2_with fail
    go_ret2
    exact ⟨by rw [HR.out]; rfl, rfl⟩
  have q2 := ne_list hS h2
  by_cases h3 : s = [45]
  · have q3 := eq_list hS h3
    have HR := Lib.hid (show opRes (opLv s) = .returned (.tuple #[.int .i64 2, .bool true]) by unfold opLv; rw [if_neg h1, if_pos (.inr h3)]; rfl)
    clear hS h1 h2 h3
    go_enter Tryz.func103, Tryz.ntmps103
    go_wp2_with fail
    go_ret2
    exact ⟨by rw [HR.out]; rfl, rfl⟩
  have q3 := ne_list hS h3
  by_cases h4 : s = [60]
  · have q4 := eq_list hS h4
    have HR := Lib.hid (show opRes (opLv s) = .returned (.tuple #[.int .i64 1, .bool true]) by unfold opLv; rw [if_neg h1, if_neg (by simp [h2, h3]), if_pos (.inl h4)]; rfl)
    clear hS h1 h2 h3 h4
    go_enter Tryz.func103, Tryz.ntmps103
    go_wp2_with fail
    go_ret2
    exact ⟨by rw [HR.out]; rfl, rfl⟩
  have q4 := ne_list hS h4
  by_cases h5 : s = [61, 61]
  · have q5 := eq_list hS h5
    have HR := Lib.hid (show opRes (opLv s) = .returned (.tuple #[.int .i64 1, .bool true]) by unfold opLv; rw [if_neg h1, if_neg (by simp [h2, h3]), if_pos (.inr h5)]; rfl)
    clear hS h1 h2 h3 h4 h5
    go_enter Tryz.func103, Tryz.ntmps103
    go_wp2_with fail
    go_ret2
    exact ⟨by rw [HR.out]; rfl, rfl⟩
  have q5 := ne_list hS h5
  have HR := Lib.hid (show opRes (opLv s) = .returned (.tuple #[.int .i64 0, .bool false]) by unfold opLv; rw [if_neg h1, if_neg (by simp [h2, h3]), if_neg (by simp [h4, h5])]; rfl)
  clear hS h1 h2 h3 h4 h5
  go_enter Tryz.func103, Tryz.ntmps103
  go_wp2_with fail
  go_ret2
  exact ⟨by rw [HR.out]; rfl, rfl⟩

/-- whether a token is an operator of a level -/
def isOp (t : Rt) (l : Int) : Bool := decide (opLv t.s = some l)
set_option maxRecDepth 100000 in
set_option maxHeartbeats 1000000 in
theorem isOperator_any (b g go c : Nat) (ts : List Rt) (nx dp : Nat) (t : Rt) (l : Int) (w : World) (h : PS w b g go c ts nx dp) (ht : ts[nx]? = some t) (r : Bool) (hr : isOp t l = r) :
    Calls Tryz.prog 126 #[.pointer (some ⟨b, 0, none⟩), .int .i64 l] w fun e w' => e = .returned (.bool r) ∧ Below w.heap.size w w' := by
  have HP := Lib.hid (peek_any b g go c ts nx dp t w h ht)
  have hbl := h.blt
  have fl1 := tfield1
  have HO := Lib.hid (fun w => opLevel_any t.s w)
  unfold isOp at hr
  cases ho : opLv t.s with
  | none =>
    have hr2 : r = false := by rw [ho] at hr; rw [← hr]; rfl
    subst hr2
    have HO1 : Hid (∀ w, Calls Tryz.prog 103 #[.string (strB t.s)] w fun e w' => e = .returned (.tuple #[.int .i64 0, .bool false]) ∧ w = w') := fun w => (HO.out w).mono fun e w' h => ⟨by rw [h.1, ho]; rfl, h.2⟩
    obtain ⟨S, hS⟩ : ∃ S, S = strB t.s := ⟨_, rfl⟩
    rw [← hS] at HP HO1
    clear h ht hr ho hS HO
    go_enter Tryz.func126, Tryz.ntmps126
    go_wp2_with (first | (go_at_call 83; refine (HP.out).mono ?_; rintro e w' ⟨rfl, hb⟩; have HB := Lib.hid hb; clear hb) | (go_at_call 103; refine (HO1.out _).mono ?_; rintro e w' ⟨rfl, rfl⟩))
    go_ret
    exact ⟨rfl, HB.out⟩
  | some m =>
    have HO1 : Hid (∀ w, Calls Tryz.prog 103 #[.string (strB t.s)] w fun e w' => e = .returned (.tuple #[.int .i64 m, .bool true]) ∧ w = w') := fun w => (HO.out w).mono fun e w' h => ⟨by rw [h.1, ho]; rfl, h.2⟩
    obtain ⟨S, hS⟩ : ∃ S, S = strB t.s := ⟨_, rfl⟩
    rw [← hS] at HP HO1
    have hml : (m == l) = r := by
      rw [ho] at hr; rw [← hr]
      by_cases e : m = l
      · subst e; simp
      · rw [beq_eq_false_iff_ne.2 e, eq_comm]; simp [e]
    clear h ht hr ho hS HO
    cases r
    all_goals
      go_enter Tryz.func126, Tryz.ntmps126
      go_wp2_with (first | (go_at_call 83; refine (HP.out).mono ?_; rintro e w' ⟨rfl, hb⟩; have HB := Lib.hid hb; clear hb) | (go_at_call 103; refine (HO1.out _).mono ?_; rintro e w' ⟨rfl, rfl⟩))
      go_ret
      exact ⟨rfl, HB.out⟩
end Go.Proofs.YtbmicnajedeenaaGreatDoor
/- The parser: a call that is one head; operations. -/
namespace Go.Proofs.YtbmicnajedeenaaGreatDoor
open Go.RowKit

theorem res_call {tmps : Array Value} {w : World} {g : Nat} {v0 v1 v2 v3 v4 v5 v6 : Value} (h2 : tmps.getD 2 undef = .pointer (some ⟨g, 0, none⟩)) (h : EB w g v0 v1 v2 v3 v4 v5 v6) :
    (results Tryz.f125 tmps).run Tryz.prog w = .ok (.agg #[v0, v1, v2, v3, v4, v5, v6]) w := by
  have c0 := h.c0
  have c1 := h.c1
  have c2 := h.c2
  have c3 := h.c3
  have c4 := h.c4
  have c5 := h.c5
  have c6 := h.c6
  have h2' : tmps[2]?.getD undef = .pointer (some ⟨g, 0, none⟩) := by simpa using h2
  simp [results, Tryz.results125, go_sem, h2', c0, c1, c2, c3, c4, c5, c6]
theorem res_op {tmps : Array Value} {w : World} {g : Nat} {v0 v1 v2 v3 v4 v5 v6 : Value} (h2 : tmps.getD 4 undef = .pointer (some ⟨g, 0, none⟩)) (h : EB w g v0 v1 v2 v3 v4 v5 v6) :
    (results Tryz.f87 tmps).run Tryz.prog w = .ok (.agg #[v0, v1, v2, v3, v4, v5, v6]) w := by
  have c0 := h.c0
  have c1 := h.c1
  have c2 := h.c2
  have c3 := h.c3
  have c4 := h.c4
  have c5 := h.c5
  have c6 := h.c6
  have h2' : tmps[4]?.getD undef = .pointer (some ⟨g, 0, none⟩) := by simpa using h2
  simp [results, Tryz.results87, go_sem, h2', c0, c1, c2, c3, c4, c5, c6]

set_option maxRecDepth 100000 in
set_option maxHeartbeats 1000000 in
theorem call_one (b g go c : Nat) (ts : List Rt) (nx dp nx' : Nat) (ex : Ex) (w : World) (h : PS w b g go c ts nx dp) (t : Rt) (ht : ts[nx']? = some t) (hn : NoAtom t)
    (HC : Hid (∀ w', PS w' b g go c ts nx dp → Calls Tryz.prog 149 #[.pointer (some ⟨b, 0, none⟩)] w' (ExprTo w' b g go c ts nx' dp ex))) :
    Calls Tryz.prog 125 #[.pointer (some ⟨b, 0, none⟩)] w (ExprTo w b g go c ts nx' dp ex) := by
  have hbl := h.blt
  have hgl := h.lt
  have H0 : Hid (PS (w.alloc (.cells #[.int .i64 0, .int .i64 0, .string ⟨#[]⟩, .string ⟨#[]⟩, .slice none 0 0, .slice none 0 0, .slice none 0 0] 30)) b g go c ts nx dp) := h.below ((Below.refl _ _).alloc (Nat.le_refl _) _)
  have HE0 := Lib.hid (EB.new w (.int .i64 0) (.int .i64 0) (.string ⟨#[]⟩) (.string ⟨#[]⟩) (.slice none 0 0) (.slice none 0 0) (.slice none 0 0))
  have HG0 : Hid (w.grownBy _ (some b)) := World.grownBy_alloc w (.cells #[.int .i64 0, .int .i64 0, .string ⟨#[]⟩, .string ⟨#[]⟩, .slice none 0 0, .slice none 0 0, .slice none 0 0] 30) (some b)
  have HI := Lib.hid (fun w h => isAtom_no b g go c ts nx' dp t w h ht hn)
  clear h ht hn
  go_enter Tryz.func125, Tryz.ntmps125
  go_wp2_with fail
  refine (HC.out _ H0.out).mono ?_
  rintro e w2 ⟨k, n, s, t, A0, n0, m0, A1, n1, m1, A2, n2, m2, rfl, hr, hw⟩
  have HR := Lib.hid hr
  have HP2 := Lib.hid hw.1
  have HG2 := Lib.hid (grown_trans HG0.out hw.2)
  have HE2 := Lib.hid (HE0.out.kept hw.2 (by simp; omega))
  clear hr hw HC
  go_wp2_with fail
  obtain ⟨W3, hW3⟩ : ∃ W3, w2.alloc (.cells #[.int .i64 k, .int .i64 n, .string s, .string t, .slice A0 n0 m0, .slice A1 n1 m1, .slice A2 n2 m2] 30) = W3 := ⟨_, rfl⟩
  have HP3 : Hid (PS W3 b g go c ts nx' dp) := by rw [← hW3]; exact HP2.out.below ((Below.refl _ _).alloc (Nat.le_refl _) _)
  have HE3 : Hid (EB W3 w.heap.size (.int .i64 0) (.int .i64 0) (.string ⟨#[]⟩) (.string ⟨#[]⟩) (.slice none 0 0) (.slice none 0 0) (.slice none 0 0)) := by rw [← hW3]; exact HE2.out.kept (World.grownBy_alloc _ _ none) (by simp)
  have HT3 : Hid (EB W3 w2.heap.size (.int .i64 k) (.int .i64 n) (.string s) (.string t) (.slice A0 n0 m0) (.slice A1 n1 m1) (.slice A2 n2 m2)) := by rw [← hW3]; exact EB.new w2 _ _ _ _ _ _ _
  have HG3 : Hid (w.grownBy W3 (some b)) := by rw [← hW3]; exact grown_trans HG2.out (World.grownBy_alloc _ _ _)
  have HS3 : Hid (Same (fun _ => True) w2 W3) := by rw [← hW3]; exact Same.of_grown (World.grownBy_alloc _ _ none) (fun x hx => by simp)
  have hz2 : w.heap.size < w2.heap.size := HE2.out.lt
  have hz3 : w2.heap.size < W3.heap.size := HT3.out.lt
  rw [hW3]
  clear hW3
  go_loopw [] (fun wr => Hid (wr = W3)) (fun _ => 0)
  case atStart => exact rfl
  case round =>
    have hrw := hrel.out
    subst hrw
    go_wp2_with fail
    refine (HI.out _ HP3.out).mono ?_
    rintro e w4 ⟨rfl, hb⟩
    have HP4 := Lib.hid (HP3.out.below hb)
    have HE4 := Lib.hid (HE3.out.kept (grown_below hb none) (by simp))
    have HT4 := Lib.hid (HT3.out.kept (grown_below hb none) (by simp))
    have HG4 := Lib.hid (grown_trans HG3.out (grown_below hb _))
    have HS4 := Lib.hid (HS3.out.trans (Same.of_below hb))
    have e0 := HE4.out.c0
    have e1 := HE4.out.c1
    have e2 := HE4.out.c2
    have e3 := HE4.out.c3
    have e4 := HE4.out.c4
    have e5 := HE4.out.c5
    have e6 := HE4.out.c6
    have r0 := HE4.out.fr 0
    have r1 := HE4.out.fr 1
    have r2 := HE4.out.fr 2
    have r3 := HE4.out.fr 3
    have r4 := HE4.out.fr 4
    have r5 := HE4.out.fr 5
    have r6 := HE4.out.fr 6
    have d0 := HT4.out.c0
    have d1 := HT4.out.c1
    have d2 := HT4.out.c2
    have d3 := HT4.out.c3
    have d4 := HT4.out.c4
    have d5 := HT4.out.c5
    have d6 := HT4.out.c6
    clear hb
    go_wp2_with fail
    exact bodyPost_ret (res_call rfl (HE4.out.all (.int .i64 k) (.int .i64 n) (.string s) (.string t) (.slice A0 n0 m0) (.slice A1 n1 m1) (.slice A2 n2 m2))) rfl
      ⟨k, n, s, t, A0, n0, m0, A1, n1, m1, A2, n2, m2, rfl, ((HR.out.keep ⟨HS4.out.1, fun x _ hl => HS4.out.2 x trivial hl⟩).keep (Same.of_grown (set7_grown _ _ _ _ _ _ _ _ _) (fun x hx => by simp at hx ⊢; omega))).weaken (fun x hx => by simp at hx; omega),
        HP4.out.kept (set7_grown _ _ _ _ _ _ _ _ _) (by simp; omega) (by simp; omega), grown_7 HG4.out (Nat.le_refl _) _ _ _ _ _ _ _⟩

set_option maxRecDepth 100000 in
set_option maxHeartbeats 1000000 in
theorem op_call (b g go c : Nat) (ts : List Rt) (nx dp nx' : Nat) (ex : Ex) (w : World) (h : PS w b g go c ts nx dp)
    (HC : Hid (∀ w', PS w' b g go c ts nx dp → Calls Tryz.prog 125 #[.pointer (some ⟨b, 0, none⟩)] w' (ExprTo w' b g go c ts nx' dp ex))) :
    Calls Tryz.prog 87 #[.pointer (some ⟨b, 0, none⟩), .int .i64 4] w (ExprTo w b g go c ts nx' dp ex) := by
  have hbl := h.blt
  have hgl := h.lt
  have H0 : Hid (PS (w.alloc (.cells #[.int .i64 0, .int .i64 0, .string ⟨#[]⟩, .string ⟨#[]⟩, .slice none 0 0, .slice none 0 0, .slice none 0 0] 30)) b g go c ts nx dp) := h.below ((Below.refl _ _).alloc (Nat.le_refl _) _)
  have HE0 := Lib.hid (EB.new w (.int .i64 0) (.int .i64 0) (.string ⟨#[]⟩) (.string ⟨#[]⟩) (.slice none 0 0) (.slice none 0 0) (.slice none 0 0))
  have HG0 : Hid (w.grownBy _ (some b)) := World.grownBy_alloc w (.cells #[.int .i64 0, .int .i64 0, .string ⟨#[]⟩, .string ⟨#[]⟩, .slice none 0 0, .slice none 0 0, .slice none 0 0] 30) (some b)
  clear h
  go_enter Tryz.func87, Tryz.ntmps87
  go_wp2_with fail
  refine (HC.out _ H0.out).mono ?_
  rintro e w2 ⟨k, n, s, t, A0, n0, m0, A1, n1, m1, A2, n2, m2, rfl, hr, hw⟩
  have HR := Lib.hid hr
  have HP2 := Lib.hid hw.1
  have HG2 := Lib.hid (grown_trans HG0.out hw.2)
  have HE4 := Lib.hid (HE0.out.kept hw.2 (by simp; omega))
  have e0 := HE4.out.c0
  have e1 := HE4.out.c1
  have e2 := HE4.out.c2
  have e3 := HE4.out.c3
  have e4 := HE4.out.c4
  have e5 := HE4.out.c5
  have e6 := HE4.out.c6
  have r0 := HE4.out.fr 0
  have r1 := HE4.out.fr 1
  have r2 := HE4.out.fr 2
  have r3 := HE4.out.fr 3
  have r4 := HE4.out.fr 4
  have r5 := HE4.out.fr 5
  have r6 := HE4.out.fr 6
  clear hr hw HC
  go_wp2_with fail
  exact bodyPost_ret (res_op rfl (HE4.out.all (.int .i64 k) (.int .i64 n) (.string s) (.string t) (.slice A0 n0 m0) (.slice A1 n1 m1) (.slice A2 n2 m2))) rfl
    ⟨k, n, s, t, A0, n0, m0, A1, n1, m1, A2, n2, m2, rfl, (HR.out.keep (Same.of_grown (set7_grown _ _ _ _ _ _ _ _ _) (fun x hx => by simp at hx ⊢; omega))).weaken (fun x hx => by simp at hx; omega),
      HP2.out.kept (set7_grown _ _ _ _ _ _ _ _ _) (by simp; omega) (by simp; omega), grown_7 HG2.out (Nat.le_refl _) _ _ _ _ _ _ _⟩

/-- an operation's node -/
def primE (s : List UInt8) (a e : Ex) : Ex := .mk 9 0 s [] [] [a, e] [] []
theorem rep_prim {P : Nat → Prop} {w : World} {s : List UInt8} {a e : Ex} {g : Nat} {xs ys : List Value} (hs : okS s) (hp : P g) (hg : g < w.heap.size) (h1 : xs.length = 7) (h2 : ys.length = 7) (hc : CellsAt w g 0 (xs ++ ys)) (ha : RepE P w a xs) (he : RepE P w e ys) :
    RepE P w (primE s a e) [.int .i64 9, .int .i64 0, .string (strB s), .string ⟨#[]⟩, .slice none 0 0, .slice (some ⟨g, 0, none⟩) 2 2, .slice none 0 0] := by
  refine ⟨none, 0, some ⟨g, 0, none⟩, 2, none, 0, rfl, ⟨okN_small (by omega), okN_small (by omega), hs, Nat.zero_le _, by simp, ⟨Nat.le_refl _, Nat.zero_le _⟩, ⟨Nat.le_refl _, by unfold maxLen; omega⟩, ⟨Nat.le_refl _, Nat.zero_le _⟩⟩, fun h => absurd rfl h, fun _ => ⟨g, 0, rfl, hp, hg, ⟨xs, h1, fun i v hi => ?_, ha⟩, ⟨ys, h2, fun i v hi => ?_, he⟩, trivial⟩, fun h => absurd rfl h, rfl⟩
  · exact hc i v (by rw [List.getElem?_append_left (List.getElem?_eq_some_iff.1 hi).1]; exact hi)
  · have := hc (7 + i) v (by rw [List.getElem?_append_right (by omega), h1, Nat.add_sub_cancel_left]; exact hi)
    simpa using this
def nxOf (b : Nat) (w : World) : Nat := (intOf ((w.cell? ⟨b, 1, none⟩).getD undef)).toNat
theorem nxOf_ps {w : World} {b g go c : Nat} {ts : List Rt} {nx dp : Nat} (h : PS w b g go c ts nx dp) : nxOf b w = nx := by unfold nxOf; rw [h.c1]; simp [intOf]
theorem operandLevel_any (l : Int) (w : World) : Calls Tryz.prog 104 #[.int .i64 l] w fun e w' => e = .returned (.int .i64 (if l = 1 then 2 else l)) ∧ w = w' := by
  by_cases h : l = 1
  · subst h
    go_enter Tryz.func104, Tryz.ntmps104
    go_wp2_with fail
    go_ret
    exact ⟨rfl, rfl⟩
  · have hb : (l == 1) = false := beq_eq_false_iff_ne.2 h
    rw [if_neg h]
    clear h
    go_enter Tryz.func104, Tryz.ntmps104
    go_wp2_with fail
    go_ret
    exact ⟨rfl, rfl⟩

/-- what stands behind a left operand: no operator of this level, or one, and its right operand -/
def ChainStep (b g go c : Nat) (ts : List Rt) (dp : Nat) (l : Int) (Chain : Ex → Nat → Prop) (E : Ex) (K : Nat) (ex : Ex) (nx : Nat) : Prop :=
  ∃ t, ts[nx]? = some t ∧ ((isOp t l = false ∧ ex = E ∧ nx = K) ∨
    (isOp t l = true ∧ t.k = 4 ∧ ∃ e2 nx2, nx < nx2 ∧ nx2 ≤ ts.length ∧ (∀ w', PS w' b g go c ts (nx + 1) dp → Calls Tryz.prog 87 #[.pointer (some ⟨b, 0, none⟩), .int .i64 (l + 1)] w' (ExprTo w' b g go c ts nx2 dp e2)) ∧
      ((l = 1 ∧ primE t.s ex e2 = E ∧ nx2 = K) ∨ (l ≠ 1 ∧ Chain (primE t.s ex e2) nx2))))

end Go.Proofs.YtbmicnajedeenaaGreatDoor
/- The parser: operations of one level. -/
namespace Go.Proofs.YtbmicnajedeenaaGreatDoor
open Go.RowKit

theorem NamesAt.tight {P : Nat → Prop} {w : World} {A : Option Addr} {L : List (List UInt8)} (h : NamesAt P w A L) : NamesAt (fun x => P x ∧ x < w.heap.size) w A L := fun h0 => by
  obtain ⟨b, off, e, hp, hlt, hc⟩ := h h0
  exact ⟨b, off, e, ⟨hp, hlt⟩, hlt, hc⟩
mutual
/-- the blocks of a tree lie in the world -/
theorem RepE.tight {P : Nat → Prop} {w : World} : ∀ {e : Ex} {cs : List Value}, RepE P w e cs → RepE (fun x => P x ∧ x < w.heap.size) w e cs
  | .mk k n s t ns l ops bs, cs, h => by
    obtain ⟨An, cn, Al, cl, Aa, ca, e, hf, hn, hl, ha, ho⟩ := h
    refine ⟨An, cn, Al, cl, Aa, ca, e, hf, hn.tight, fun h0 => ?_, fun h0 => ?_, ho⟩
    · obtain ⟨b, off, e, hp, hlt, hr⟩ := hl h0
      exact ⟨b, off, e, ⟨hp, hlt⟩, hlt, RepL.tight hr⟩
    · obtain ⟨b, off, e, hp, hlt, hr⟩ := ha h0
      exact ⟨b, off, e, ⟨hp, hlt⟩, hlt, RepA.tight hr⟩
theorem RepL.tight {P : Nat → Prop} {w : World} {b : Nat} : ∀ {l : List Ex} {off : Nat}, RepL P w b off l → RepL (fun x => P x ∧ x < w.heap.size) w b off l
  | [], off, _ => trivial
  | e :: r, off, h => by
    obtain ⟨⟨cs, h7, hc, he⟩, hr⟩ := h
    exact ⟨⟨cs, h7, hc, RepE.tight he⟩, RepL.tight hr⟩
theorem RepA.tight {P : Nat → Prop} {w : World} {b : Nat} : ∀ {l : List Ex} {off : Nat} {ops : List (List UInt8 × List (List UInt8))}, RepA P w b off ops l → RepA (fun x => P x ∧ x < w.heap.size) w b off ops l
  | [], off, ops, _ => trivial
  | e :: r, off, ops, h => by
    obtain ⟨op, ns, q, A, c, cs, e1, h1, h2, h3, h4, h7, hc, hn, he, hr⟩ := h
    exact ⟨op, ns, q, A, c, cs, e1, h1, h2, h3, h4, h7, hc, hn.tight, RepE.tight he, RepA.tight hr⟩
end
theorem cellsAt_new (w : World) (xs : List Value) (ty : Nat) : CellsAt (w.alloc (.cells xs.toArray ty)) w.heap.size 0 xs := fun i v hi => by
  have := heap_alloc_new w (.cells xs.toArray ty)
  rw [Nat.zero_add]
  unfold World.cell?
  rw [this]
  simpa using hi
/-- the left operand so far, in its block t; the result's block r is as it was made -/
def OpRel (w0 : World) (r t b g go c : Nat) (ts : List Rt) (dp : Nat) (Chain : Ex → Nat → Prop) (wr : World) : Prop :=
  ∃ (ex : Ex) (nx : Nat) (k n : Int) (s u : ByteArray) (A0 : Option Addr) (n0 m0 : Nat) (A1 : Option Addr) (n1 m1 : Nat) (A2 : Option Addr) (n2 m2 : Nat), Chain ex nx ∧ PS wr b g go c ts nx dp ∧
    EB wr r (.int .i64 0) (.int .i64 0) (.string ⟨#[]⟩) (.string ⟨#[]⟩) (.slice none 0 0) (.slice none 0 0) (.slice none 0 0) ∧
    EB wr t (.int .i64 k) (.int .i64 n) (.string s) (.string u) (.slice A0 n0 m0) (.slice A1 n1 m1) (.slice A2 n2 m2) ∧
    RepE (fun x => r < x ∧ x ≠ t) wr ex [.int .i64 k, .int .i64 n, .string s, .string u, .slice A0 n0 m0, .slice A1 n1 m1, .slice A2 n2 m2] ∧ w0.grownBy wr (some b)

set_option maxRecDepth 100000 in
set_option maxHeartbeats 4000000 in
theorem op_any (b g go c : Nat) (ts : List Rt) (nx dp : Nat) (l : Int) (hl : 1 ≤ l ∧ l ≤ 3) (hok : TokOk ts) (Chain : Ex → Nat → Prop) (E : Ex) (K : Nat) (ex0 : Ex) (nx0 : Nat) (w : World) (h : PS w b g go c ts nx dp)
    (HC : Hid (∀ w', PS w' b g go c ts nx dp → Calls Tryz.prog 87 #[.pointer (some ⟨b, 0, none⟩), .int .i64 (l + 1)] w' (ExprTo w' b g go c ts nx0 dp ex0)))
    (H0C : Chain ex0 nx0) (HStep : Hid (∀ ex nx, Chain ex nx → ChainStep b g go c ts dp l Chain E K ex nx)) :
    Calls Tryz.prog 87 #[.pointer (some ⟨b, 0, none⟩), .int .i64 l] w (ExprTo w b g go c ts K dp E) := by
  have hbl := h.blt
  have hgl := h.lt
  have H0 : Hid (PS (w.alloc (.cells #[.int .i64 0, .int .i64 0, .string ⟨#[]⟩, .string ⟨#[]⟩, .slice none 0 0, .slice none 0 0, .slice none 0 0] 30)) b g go c ts nx dp) := h.below ((Below.refl _ _).alloc (Nat.le_refl _) _)
  have HE0 := Lib.hid (EB.new w (.int .i64 0) (.int .i64 0) (.string ⟨#[]⟩) (.string ⟨#[]⟩) (.slice none 0 0) (.slice none 0 0) (.slice none 0 0))
  have HG0 : Hid (w.grownBy _ (some b)) := World.grownBy_alloc w (.cells #[.int .i64 0, .int .i64 0, .string ⟨#[]⟩, .string ⟨#[]⟩, .slice none 0 0, .slice none 0 0, .slice none 0 0] 30) (some b)
  have HCh := Lib.hid H0C
  obtain ⟨l1, l2⟩ := hl
  clear h H0C
  go_enter Tryz.func87, Tryz.ntmps87
  go_wp2_with fail
  refine (HC.out _ H0.out).mono ?_
  rintro e w2 ⟨k, n, s, t, A0, n0, m0, A1, n1, m1, A2, n2, m2, rfl, hr, hw⟩
  have HR := Lib.hid hr
  have HP2 := Lib.hid hw.1
  have HG2 := Lib.hid (grown_trans HG0.out hw.2)
  have HE2 := Lib.hid (HE0.out.kept hw.2 (by simp; omega))
  clear hr hw HC
  go_wp2_with fail
  obtain ⟨W3, hW3⟩ : ∃ W3, w2.alloc (.cells #[.int .i64 k, .int .i64 n, .string s, .string t, .slice A0 n0 m0, .slice A1 n1 m1, .slice A2 n2 m2] 30) = W3 := ⟨_, rfl⟩
  have HP3 : Hid (PS W3 b g go c ts nx0 dp) := by rw [← hW3]; exact HP2.out.below ((Below.refl _ _).alloc (Nat.le_refl _) _)
  have HE3 : Hid (EB W3 w.heap.size (.int .i64 0) (.int .i64 0) (.string ⟨#[]⟩) (.string ⟨#[]⟩) (.slice none 0 0) (.slice none 0 0) (.slice none 0 0)) := by rw [← hW3]; exact HE2.out.kept (World.grownBy_alloc _ _ none) (by simp)
  have HT3 : Hid (EB W3 w2.heap.size (.int .i64 k) (.int .i64 n) (.string s) (.string t) (.slice A0 n0 m0) (.slice A1 n1 m1) (.slice A2 n2 m2)) := by rw [← hW3]; exact EB.new w2 _ _ _ _ _ _ _
  have HG3 : Hid (w.grownBy W3 (some b)) := by rw [← hW3]; exact grown_trans HG2.out (World.grownBy_alloc _ _ _)
  have hz2 : w.heap.size < w2.heap.size := HE2.out.lt
  have HR3 : Hid (RepE (fun x => w.heap.size < x ∧ x ≠ w2.heap.size) W3 ex0 [.int .i64 k, .int .i64 n, .string s, .string t, .slice A0 n0 m0, .slice A1 n1 m1, .slice A2 n2 m2]) := by
    rw [← hW3]
    exact (HR.out.tight.keep (Same.of_grown (World.grownBy_alloc _ _ none) (fun _ _ => by simp))).weaken (fun x hx => by have h1 := hx.1; have h2 := hx.2; simp at h1; omega)
  rw [hW3]
  clear hW3
  obtain ⟨T, hT⟩ : ∃ T, T = w2.heap.size := ⟨_, rfl⟩
  have HRel : Hid (OpRel w w.heap.size T b g go c ts dp Chain W3) := by
    rw [hT]; exact ⟨ex0, nx0, k, n, s, t, A0, n0, m0, A1, n1, m1, A2, n2, m2, HCh.out, HP3.out, HE3.out, HT3.out, HR3.out, HG3.out⟩
  have hwT : w.heap.size < T := by omega
  rw [← hT]
  clear HP3 HE3 HT3 HG3 HR3 HR HP2 HG2 HE2 HCh hT hz2
  clear HE0 HG0 H0
  go_loopw [] (fun wr => Hid (OpRel w w.heap.size T b g go c ts dp Chain wr)) (fun wr => ts.length - nxOf b wr)
  case atStart => exact HRel
  case round =>
    clear HRel
    obtain ⟨ex, nx, k, n, s, t, A0, n0, m0, A1, n1, m1, A2, n2, m2, hch, hps, he, ht, hr, hg⟩ := hrel.out
    obtain ⟨tk, htk, hcase⟩ := HStep.out ex nx hch
    have hgr := hps.lt
    have hzr : T < wr.heap.size := ht.lt
    have HPr := Lib.hid hps
    have HEr := Lib.hid he
    have HTr := Lib.hid ht
    have HRr := Lib.hid hr
    have HGr := Lib.hid hg
    clear hps he ht hr hg hch hrel
    rcases hcase with ⟨hf, hee, hkk⟩ | ⟨hy, hk4, e2, nx2, hlt, hle, hC2, hend⟩
    · have HI := Lib.hid (fun w h => isOperator_any b g go c ts nx dp tk l w h htk false hf)
      subst hee
      subst hkk
      clear htk hf
      go_wp2_with fail
      refine (HI.out _ HPr.out).mono ?_
      rintro e w4 ⟨rfl, hb⟩
      have HP4 := Lib.hid (HPr.out.below hb)
      have HE4 := Lib.hid (HEr.out.kept (grown_below hb none) (by simp))
      have HT4 := Lib.hid (HTr.out.kept (grown_below hb none) (by simp))
      have HG4 := Lib.hid (grown_trans HGr.out (grown_below hb _))
      have HR4 := Lib.hid (HRr.out.keep (Same.of_below hb))
      have e0 := HE4.out.c0
      have e1 := HE4.out.c1
      have e2 := HE4.out.c2
      have e3 := HE4.out.c3
      have e4 := HE4.out.c4
      have e5 := HE4.out.c5
      have e6 := HE4.out.c6
      have r0 := HE4.out.fr 0
      have r1 := HE4.out.fr 1
      have r2 := HE4.out.fr 2
      have r3 := HE4.out.fr 3
      have r4 := HE4.out.fr 4
      have r5 := HE4.out.fr 5
      have r6 := HE4.out.fr 6
      have d0 := HT4.out.c0
      have d1 := HT4.out.c1
      have d2 := HT4.out.c2
      have d3 := HT4.out.c3
      have d4 := HT4.out.c4
      have d5 := HT4.out.c5
      have d6 := HT4.out.c6
      clear hb
      go_wp2_with fail
      exact bodyPost_ret (res_op rfl (HE4.out.all (.int .i64 k) (.int .i64 n) (.string s) (.string t) (.slice A0 n0 m0) (.slice A1 n1 m1) (.slice A2 n2 m2))) rfl
        ⟨k, n, s, t, A0, n0, m0, A1, n1, m1, A2, n2, m2, rfl, (HR4.out.keep (Same.of_grown (set7_grown _ _ _ _ _ _ _ _ _) (fun x hx => by have h1 := hx.1; simp; omega))).weaken (fun x hx => by have h1 := hx.1; omega),
          HP4.out.kept (set7_grown _ _ _ _ _ _ _ _ _) (by simp; omega) (by simp; omega), grown_7 HG4.out (Nat.le_refl _) _ _ _ _ _ _ _⟩
    · have HI := Lib.hid (fun w h => isOperator_any b g go c ts nx dp tk l w h htk true hy)
      have hlen := hok.1
      have hoks := (hok.2 nx tk htk).1
      have HTk := Lib.hid (fun w h => token_ok b g go c ts nx dp tk w h htk hlen)
      rw [hk4] at HTk
      have HC2 := Lib.hid hC2
      have HEnd := Lib.hid hend
      obtain ⟨S, hS⟩ : ∃ S, S = strB tk.s := ⟨_, rfl⟩
      rw [← hS] at HTk
      have hw1 : IntKind.i64.wrap (l + 1) = l + 1 := IntWalk.i64_in _ (by omega)
      clear hC2 hend htk hy hlen
      go_wp2_with fail
      refine (HI.out _ HPr.out).mono ?_
      rintro e w4 ⟨rfl, hb⟩
      have HP4 := Lib.hid (HPr.out.below hb)
      have HE4 := Lib.hid (HEr.out.kept (grown_below hb none) (by simp))
      have HT4 := Lib.hid (HTr.out.kept (grown_below hb none) (by simp))
      have HG4 := Lib.hid (grown_trans HGr.out (grown_below hb _))
      have HR4 := Lib.hid (HRr.out.keep (Same.of_below hb))
      clear hb
      have fl1 := tfield1
      go_wp2_with fail
      refine (HTk.out _ HP4.out).mono ?_
      rintro e w5 ⟨rfl, hb⟩
      have HP5 := Lib.hid hb.1
      have HE5 := Lib.hid (HE4.out.kept hb.2 (by simp; omega))
      have HT5 := Lib.hid (HT4.out.kept hb.2 (by simp; omega))
      have HG5 := Lib.hid (grown_trans HG4.out hb.2)
      have HR5 := Lib.hid (HR4.out.tight.keep (Same.of_grown hb.2 (fun x hx => by have h1 := hx.1.1; simp; omega)))
      clear hb
      go_wp2_with fail
      refine (HC2.out _ HP5.out).mono ?_
      rintro e w6 ⟨kk, nn, ss, tt, B0, n3, m3, B1, n4, m4, B2, n5, m5, rfl, hr, hw⟩
      have hz5 := HT5.out.lt
      have HRa := Lib.hid (HR5.out.tight.keep (Same.of_grown hw.2 (fun x hx => by have h1 := hx.1.1.1; simp; omega)))
      have HRb := Lib.hid hr.tight
      have HP6 := Lib.hid hw.1
      have HE6 := Lib.hid (HE5.out.kept hw.2 (by simp; omega))
      have HT6 := Lib.hid (HT5.out.kept hw.2 (by simp; omega))
      have HG6 := Lib.hid (grown_trans HG5.out hw.2)
      have hz6 := HT6.out.lt
      have d0 := HT6.out.c0
      have d1 := HT6.out.c1
      have d2 := HT6.out.c2
      have d3 := HT6.out.c3
      have d4 := HT6.out.c4
      have d5 := HT6.out.c5
      have d6 := HT6.out.c6
      have r0 := HT6.out.fr 0
      have r1 := HT6.out.fr 1
      have r2 := HT6.out.fr 2
      have r3 := HT6.out.fr 3
      have r4 := HT6.out.fr 4
      have r5 := HT6.out.fr 5
      have r6 := HT6.out.fr 6
      clear hr hw
      go_wp2_with fail
      obtain ⟨W7, hW7⟩ : ∃ W7, ((set7 w6 T (.int .i64 9) (.int .i64 0) (.string (strB tk.s)) (.string ⟨#[]⟩) (.slice none 0 0) (.slice (some ⟨w6.heap.size + 1, 0, none⟩) 2 2) (.slice none 0 0)).alloc (.cells #[.int .i64 kk, .int .i64 nn, .string ss, .string tt, .slice B0 n3 m3, .slice B1 n4 m4, .slice B2 n5 m5] 30)).alloc (.cells #[.int .i64 k, .int .i64 n, .string s, .string t, .slice A0 n0 m0, .slice A1 n1 m1, .slice A2 n2 m2, .int .i64 kk, .int .i64 nn, .string ss, .string tt, .slice B0 n3 m3, .slice B1 n4 m4, .slice B2 n5 m5] 30) = W7 := ⟨_, rfl⟩
      have hS7 : w6.grownBy W7 (some T) := by rw [← hW7]; exact grown_trans (grown_trans (set7_grown _ _ _ _ _ _ _ _ _) (World.grownBy_alloc _ _ _)) (World.grownBy_alloc _ _ _)
      have hz7 : W7.heap.size = w6.heap.size + 2 := by rw [← hW7]; simp [set7, World.setCell]
      have hc7 : CellsAt W7 (w6.heap.size + 1) 0 ([.int .i64 k, .int .i64 n, .string s, .string t, .slice A0 n0 m0, .slice A1 n1 m1, .slice A2 n2 m2] ++ [.int .i64 kk, .int .i64 nn, .string ss, .string tt, .slice B0 n3 m3, .slice B1 n4 m4, .slice B2 n5 m5]) := by
        rw [← hW7]
        have := cellsAt_new ((set7 w6 T (.int .i64 9) (.int .i64 0) (.string (strB tk.s)) (.string ⟨#[]⟩) (.slice none 0 0) (.slice (some ⟨w6.heap.size + 1, 0, none⟩) 2 2) (.slice none 0 0)).alloc (.cells #[.int .i64 kk, .int .i64 nn, .string ss, .string tt, .slice B0 n3 m3, .slice B1 n4 m4, .slice B2 n5 m5] 30)) [.int .i64 k, .int .i64 n, .string s, .string t, .slice A0 n0 m0, .slice A1 n1 m1, .slice A2 n2 m2, .int .i64 kk, .int .i64 nn, .string ss, .string tt, .slice B0 n3 m3, .slice B1 n4 m4, .slice B2 n5 m5] 30
        have hz : ((set7 w6 T (.int .i64 9) (.int .i64 0) (.string (strB tk.s)) (.string ⟨#[]⟩) (.slice none 0 0) (.slice (some ⟨w6.heap.size + 1, 0, none⟩) 2 2) (.slice none 0 0)).alloc (.cells #[.int .i64 kk, .int .i64 nn, .string ss, .string tt, .slice B0 n3 m3, .slice B1 n4 m4, .slice B2 n5 m5] 30)).heap.size = w6.heap.size + 1 := by simp [set7, World.setCell]
        rw [hz] at this
        exact this
      have HT7 : Hid (EB W7 T (.int .i64 9) (.int .i64 0) (.string (strB tk.s)) (.string ⟨#[]⟩) (.slice none 0 0) (.slice (some ⟨w6.heap.size + 1, 0, none⟩) 2 2) (.slice none 0 0)) := by
        rw [← hW7]
        exact ((HT6.out.all (.int .i64 9) (.int .i64 0) (.string (strB tk.s)) (.string ⟨#[]⟩) (.slice none 0 0) (.slice (some ⟨w6.heap.size + 1, 0, none⟩) 2 2) (.slice none 0 0)).kept (World.grownBy_alloc _ _ none) (by simp)).kept (World.grownBy_alloc _ _ none) (by simp)
      have HP7 := Lib.hid (HP6.out.kept hS7 (by simp; omega) (by simp; omega))
      have HE7 := Lib.hid (HE6.out.kept hS7 (by simp; omega))
      have HG7 : Hid (w.grownBy W7 (some b)) := by
        rw [← hW7]
        exact grown_trans (grown_trans (grown_7 HG6.out (by omega) _ _ _ _ _ _ _) (World.grownBy_alloc _ _ _)) (World.grownBy_alloc _ _ _)
      have HR7 : Hid (RepE (fun x => w.heap.size < x ∧ x ≠ T) W7 (primE tk.s ex e2) [.int .i64 9, .int .i64 0, .string (strB tk.s), .string ⟨#[]⟩, .slice none 0 0, .slice (some ⟨w6.heap.size + 1, 0, none⟩) 2 2, .slice none 0 0]) := by
        refine rep_prim hoks ⟨by omega, by omega⟩ (by omega) rfl rfl hc7 ?_ ?_
        · exact (HRa.out.keep (Same.of_grown hS7 (fun x hx => by have h1 := hx.1.1.2; simpa using h1))).weaken (fun x hx => hx.1.1)
        · exact (HRb.out.keep (Same.of_grown hS7 (fun x hx => by have h1 := hx.1; have h2 := hz5; simp; omega))).weaken (fun x hx => by have h1 := hx.1; have h2 := hz5; omega)
      unfold set7 at hW7
      rw [hW7]
      clear hW7 hS7 hz7 hc7 HT6 HP6 HE6 HG6 HRa HRb d0 d1 d2 d3 d4 d5 d6 r0 r1 r2 r3 r4 r5 r6
      have HO := Lib.hid (fun w => operandLevel_any l w)
      rcases HEnd.out with ⟨hl1, hpe, hkk⟩ | ⟨hl1, hch⟩
      · subst hl1
        refine (HO.out _).mono ?_
        rintro e w' ⟨rfl, rfl⟩
        have e0 := HE7.out.c0
        have r0 := HE7.out.fr 0
        have d0 := HT7.out.c0
        have e1 := HE7.out.c1
        have r1 := HE7.out.fr 1
        have d1 := HT7.out.c1
        have e2 := HE7.out.c2
        have r2 := HE7.out.fr 2
        have d2 := HT7.out.c2
        have e3 := HE7.out.c3
        have r3 := HE7.out.fr 3
        have d3 := HT7.out.c3
        have e4 := HE7.out.c4
        have r4 := HE7.out.fr 4
        have d4 := HT7.out.c4
        have e5 := HE7.out.c5
        have r5 := HE7.out.fr 5
        have d5 := HT7.out.c5
        have e6 := HE7.out.c6
        have r6 := HE7.out.fr 6
        have d6 := HT7.out.c6
        go_wp2_with fail
        exact bodyPost_ret (res_op rfl (HE7.out.all (.int .i64 9) (.int .i64 0) (.string (strB tk.s)) (.string ⟨#[]⟩) (.slice none 0 0) (.slice (some ⟨w6.heap.size + 1, 0, none⟩) 2 2) (.slice none 0 0))) rfl
          ⟨9, 0, strB tk.s, ⟨#[]⟩, none, 0, 0, some ⟨w6.heap.size + 1, 0, none⟩, 2, 2, none, 0, 0, rfl, by rw [← hpe]; exact (HR7.out.keep (Same.of_grown (set7_grown _ _ _ _ _ _ _ _ _) (fun x hx => by have h1 := hx.1; simp; omega))).weaken (fun x hx => by have h1 := hx.1; omega),
            by rw [← hkk]; exact HP7.out.kept (set7_grown _ _ _ _ _ _ _ _ _) (by simp; omega) (by simp; omega), grown_7 HG7.out (Nat.le_refl _) _ _ _ _ _ _ _⟩
      · refine (HO.out _).mono ?_
        rintro e w' ⟨rfl, rfl⟩
        rw [if_neg hl1]
        have hne : (l != l) = false := by simp
        go_wp2_with fail
        refine ⟨⟨primE tk.s ex e2, nx2, 9, 0, strB tk.s, ⟨#[]⟩, none, 0, 0, some ⟨w6.heap.size + 1, 0, none⟩, 2, 2, none, 0, 0, hch, HP7.out, HE7.out, HT7.out, HR7.out, HG7.out⟩, ?_⟩
        rw [nxOf_ps HP7.out, nxOf_ps HPr.out]
        omega
end Go.Proofs.YtbmicnajedeenaaGreatDoor
/- The parser: the rule of an expression that is an operation; chains of operations. -/
namespace Go.Proofs.YtbmicnajedeenaaGreatDoor
open Go.RowKit

theorem res_expr1 {tmps : Array Value} {w : World} {g : Nat} {v0 v1 v2 v3 v4 v5 v6 : Value} (h2 : tmps.getD 1 undef = .pointer (some ⟨g, 0, none⟩)) (h : EB w g v0 v1 v2 v3 v4 v5 v6) :
    (results Tryz.f82 tmps).run Tryz.prog w = .ok (.agg #[v0, v1, v2, v3, v4, v5, v6]) w := by
  have c0 := h.c0
  have c1 := h.c1
  have c2 := h.c2
  have c3 := h.c3
  have c4 := h.c4
  have c5 := h.c5
  have c6 := h.c6
  have h2' : tmps[1]?.getD undef = .pointer (some ⟨g, 0, none⟩) := by simpa using h2
  simp [results, Tryz.results82, go_sem, h2', c0, c1, c2, c3, c4, c5, c6]
/-- a token that is no word of an expression -/
def NoWord (t : Rt) : Prop := t.s ≠ [102, 117, 110] ∧ t.s ≠ [108, 101, 116] ∧ t.s ≠ [114, 101, 99] ∧ t.s ≠ [105, 102] ∧ t.s ≠ [117, 115, 105, 110, 103]

set_option maxRecDepth 100000 in
set_option maxHeartbeats 2000000 in
theorem expr1_op (x b g go c : Nat) (ts : List Rt) (nx dp nx' : Nat) (ex : Ex) (t : Rt) (w : World) (h : PS w b g go c ts nx dp) (hx : BoxP w x b) (ht : ts[nx]? = some t) (hn : NoWord t)
    (HC : Hid (∀ w', PS w' b g go c ts nx dp → Calls Tryz.prog 87 #[.pointer (some ⟨b, 0, none⟩), .int .i64 1] w' (ExprTo w' b g go c ts nx' dp ex))) :
    Calls Tryz.prog 82 #[.pointer (some ⟨x, 0, none⟩)] w (ExprTo w b g go c ts nx' dp ex) := by
  have hbl := h.blt
  have hgl := h.lt
  have hxl := hx.lt
  have HP := Lib.hid (fun w h => peek_any b g go c ts nx dp t w h ht)
  have H0 : Hid (PS (w.alloc (.cells #[.int .i64 0, .int .i64 0, .string ⟨#[]⟩, .string ⟨#[]⟩, .slice none 0 0, .slice none 0 0, .slice none 0 0] 30)) b g go c ts nx dp) := h.below ((Below.refl _ _).alloc (Nat.le_refl _) _)
  have HX0 : Hid (BoxP (w.alloc (.cells #[.int .i64 0, .int .i64 0, .string ⟨#[]⟩, .string ⟨#[]⟩, .slice none 0 0, .slice none 0 0, .slice none 0 0] 30)) x b) := hx.kept (World.grownBy_alloc w _ none) (by simp)
  have HE0 := Lib.hid (EB.new w (.int .i64 0) (.int .i64 0) (.string ⟨#[]⟩) (.string ⟨#[]⟩) (.slice none 0 0) (.slice none 0 0) (.slice none 0 0))
  have HG0 : Hid (w.grownBy _ (some b)) := World.grownBy_alloc w (.cells #[.int .i64 0, .int .i64 0, .string ⟨#[]⟩, .string ⟨#[]⟩, .slice none 0 0, .slice none 0 0, .slice none 0 0] 30) (some b)
  have hxb := hx.ne h
  have x0 := hx.c
  obtain ⟨S, hS⟩ : ∃ S, S = strB t.s := ⟨_, rfl⟩
  obtain ⟨s1, s2, s3, s4, s5⟩ := hn
  have q1 := ne_list hS s1
  have q2 := ne_list hS s2
  have q3 := ne_list hS s3
  have q4 := ne_list hS s4
  have q5 := ne_list hS s5
  have fl1 := tfield1
  obtain ⟨tk, tss, tn, tp⟩ := t
  simp only at HP hS
  rw [← hS] at HP
  clear h hx ht hS s1 s2 s3 s4 s5
  go_enter Tryz.func82, Tryz.ntmps82
  go_wp2_with fail
  refine (HP.out _ H0.out).mono ?_
  rintro e w1 ⟨rfl, hb⟩
  have HP1 := Lib.hid (H0.out.below hb)
  have HX1 := Lib.hid (HX0.out.kept (grown_below hb none) (by simp))
  have HE1 := Lib.hid (HE0.out.kept (grown_below hb none) (by simp))
  have HG1 := Lib.hid (grown_trans HG0.out (grown_below hb _))
  have x1 := HX1.out.c
  clear hb x0
  go_wp2_with fail
  refine (HC.out _ HP1.out).mono ?_
  rintro e w2 ⟨k, n, s, t, A0, n0, m0, A1, n1, m1, A2, n2, m2, rfl, hr, hw⟩
  have hz1 := HE1.out.lt
  have HR := Lib.hid hr
  have HP2 := Lib.hid hw.1
  have HG2 := Lib.hid (grown_trans HG1.out hw.2)
  have HE4 := Lib.hid (HE1.out.kept hw.2 (by simp; omega))
  have e0 := HE4.out.c0
  have r0 := HE4.out.fr 0
  have e1 := HE4.out.c1
  have r1 := HE4.out.fr 1
  have e2 := HE4.out.c2
  have r2 := HE4.out.fr 2
  have e3 := HE4.out.c3
  have r3 := HE4.out.fr 3
  have e4 := HE4.out.c4
  have r4 := HE4.out.fr 4
  have e5 := HE4.out.c5
  have r5 := HE4.out.fr 5
  have e6 := HE4.out.c6
  have r6 := HE4.out.fr 6
  clear hr hw HC x1
  go_wp2_with fail
  exact bodyPost_ret (res_expr1 rfl (HE4.out.all (.int .i64 k) (.int .i64 n) (.string s) (.string t) (.slice A0 n0 m0) (.slice A1 n1 m1) (.slice A2 n2 m2))) rfl
    ⟨k, n, s, t, A0, n0, m0, A1, n1, m1, A2, n2, m2, rfl, (HR.out.keep (Same.of_grown (set7_grown _ _ _ _ _ _ _ _ _) (fun x hx => by simp at hx ⊢; omega))).weaken (fun x hx => by omega),
      HP2.out.kept (set7_grown _ _ _ _ _ _ _ _ _) (by simp; omega) (by simp; omega), grown_7 HG2.out (Nat.le_refl _) _ _ _ _ _ _ _⟩

/-- an operation of a level, read from a token on -/
def OpTo (b g go c : Nat) (ts : List Rt) (dp : Nat) (l : Int) (nx nx' : Nat) (ex : Ex) : Prop :=
  ∀ w', PS w' b g go c ts nx dp → Calls Tryz.prog 87 #[.pointer (some ⟨b, 0, none⟩), .int .i64 l] w' (ExprTo w' b g go c ts nx' dp ex)
section
variable {b g go c : Nat} {ts : List Rt} {dp nx n1 n2 : Nat} {l : Int} {e1 e2 : Ex} {t t2 : Rt}
theorem op_none (hl : 1 ≤ l ∧ l ≤ 3) (hok : TokOk ts) (h : OpTo b g go c ts dp (l + 1) nx n1 e1) (ht : ts[n1]? = some t) (hf : isOp t l = false) : OpTo b g go c ts dp l nx n1 e1 := fun w hp =>
  op_any b g go c ts nx dp l hl hok (fun ex n => ex = e1 ∧ n = n1) e1 n1 e1 n1 w hp (Lib.hid h) ⟨rfl, rfl⟩ (Lib.hid (by
    rintro ex n ⟨rfl, rfl⟩
    exact ⟨t, ht, .inl ⟨hf, rfl, rfl⟩⟩))
theorem op_one (hl : 1 ≤ l ∧ l ≤ 3) (hok : TokOk ts) (h : OpTo b g go c ts dp (l + 1) nx n1 e1) (ht : ts[n1]? = some t) (hf : isOp t l = true) (hk : t.k = 4) (hn : n1 < n2 ∧ n2 ≤ ts.length)
    (h2 : OpTo b g go c ts dp (l + 1) (n1 + 1) n2 e2) (ht2 : ts[n2]? = some t2) (hf2 : l = 1 ∨ isOp t2 l = false) : OpTo b g go c ts dp l nx n2 (primE t.s e1 e2) := fun w hp => by
  refine op_any b g go c ts nx dp l hl hok (fun ex n => (ex = e1 ∧ n = n1) ∨ (l ≠ 1 ∧ ex = primE t.s e1 e2 ∧ n = n2)) (primE t.s e1 e2) n2 e1 n1 w hp (Lib.hid h) (.inl ⟨rfl, rfl⟩) (Lib.hid ?_)
  rintro ex n (⟨rfl, rfl⟩ | ⟨hl1, rfl, rfl⟩)
  · refine ⟨t, ht, .inr ⟨hf, hk, e2, n2, hn.1, hn.2, h2, ?_⟩⟩
    by_cases hl1 : l = 1
    · exact .inl ⟨hl1, rfl, rfl⟩
    · exact .inr ⟨hl1, .inr ⟨hl1, rfl, rfl⟩⟩
  · exact ⟨t2, ht2, .inl ⟨hf2.resolve_left hl1, rfl, rfl⟩⟩
end
end Go.Proofs.YtbmicnajedeenaaGreatDoor
/- The parser: an example's operation. -/
namespace Go.Proofs.YtbmicnajedeenaaGreatDoor
open Go.RowKit

section
variable {b g go c : Nat} {ts : List Rt} {dp nx : Nat} {t t2 : Rt}
/-- an operand that is one token -/
theorem leaf_op (hok : TokOk ts) (hd : dp + 1 ≤ 400) (ht : ts[nx]? = some t) (hk : t.k = 0 ∨ t.k = 3) (hn : NoHead t) (ht2 : ts[nx + 1]? = some t2) (hn2 : NoAtom t2) (hdot : t2.s ≠ [46]) : OpTo b g go c ts dp 4 nx (nx + 1) (leafOf t) := fun w hp => by
  refine op_call b g go c ts nx dp (nx + 1) (leafOf t) w hp (Lib.hid fun w1 h1 => call_one b g go c ts nx dp (nx + 1) (leafOf t) w1 h1 t2 ht2 hn2 (Lib.hid fun w2 h2 => ?_))
  rcases hk with hk | hk
  · exact head_var b g go c ts nx dp t w2 h2 ht hk hn t2 ht2 hdot hok.1 (Lib.hid fun w3 h3 => atom_any b g go c ts nx dp (nx + 1) (leafOf t) w3 h3 hd (Lib.hid fun x w4 h4 h5 => atom1_var x b g go c ts nx (dp + 1) t w4 h4 h5 ht hk hok))
  · exact head_int b g go c ts nx dp t w2 h2 ht hk hn (Lib.hid fun w3 h3 => atom_any b g go c ts nx dp (nx + 1) (leafOf t) w3 h3 hd (Lib.hid fun x w4 h4 h5 => atom1_int x b g go c ts nx (dp + 1) t w4 h4 h5 ht hk hok))
end

/-- the tokens of '1 + 2 * x < y' -/
def tsA : List Rt := [⟨3, [], 1, 0⟩, ⟨4, [43], 0, 2⟩, ⟨3, [], 2, 4⟩, ⟨4, [42], 0, 6⟩, ⟨0, [120], 0, 8⟩, ⟨4, [60], 0, 10⟩, ⟨0, [121], 0, 12⟩, ⟨5, [], 0, 13⟩]
/-- the tokens of 'let x = 1' -/
def tsB : List Rt := [⟨1, [108, 101, 116], 0, 0⟩, ⟨0, [120], 0, 4⟩, ⟨4, [61], 0, 6⟩, ⟨3, [], 1, 8⟩, ⟨5, [], 0, 9⟩]
theorem tok_all {ts : List Rt} (hl : ts.length ≤ 100000) (h : ∀ t ∈ ts, okS t.s ∧ okN t.n) : TokOk ts := ⟨hl, fun _ t hj => h t (List.mem_of_getElem? hj)⟩
instance (s : List UInt8) : Decidable (okS s) := by unfold okS; infer_instance
instance (n : Int) : Decidable (okN n) := by unfold okN; infer_instance
instance (t : Rt) : Decidable (NoHead t) := by unfold NoHead; infer_instance
instance (t : Rt) : Decidable (NoAtom t) := by unfold NoAtom; infer_instance
instance (t : Rt) : Decidable (NoWord t) := by unfold NoWord; infer_instance
theorem tsA_ok : TokOk tsA := tok_all (by decide) (by decide)
theorem tsB_ok : TokOk tsB := tok_all (by decide) (by decide)
def exA1 : Ex := leafOf ⟨3, [], 1, 0⟩
def exA2 : Ex := leafOf ⟨3, [], 2, 4⟩
def exAx : Ex := leafOf ⟨0, [120], 0, 8⟩
def exAy : Ex := leafOf ⟨0, [121], 0, 12⟩
def exA : Ex := primE [60] (primE [43] exA1 (primE [42] exA2 exAx)) exAy
theorem opA (b g go c dp : Nat) (hd : dp + 1 ≤ 400) : OpTo b g go c tsA dp 1 0 7 exA := by
  have h1 : OpTo b g go c tsA dp 4 0 1 exA1 := leaf_op tsA_ok hd (t := ⟨3, [], 1, 0⟩) rfl (by decide) (by decide) (t2 := ⟨4, [43], 0, 2⟩) rfl (by decide) (by decide)
  have h2 : OpTo b g go c tsA dp 4 2 3 exA2 := leaf_op tsA_ok hd (t := ⟨3, [], 2, 4⟩) rfl (by decide) (by decide) (t2 := ⟨4, [42], 0, 6⟩) rfl (by decide) (by decide)
  have h3 : OpTo b g go c tsA dp 4 4 5 exAx := leaf_op tsA_ok hd (t := ⟨0, [120], 0, 8⟩) rfl (by decide) (by decide) (t2 := ⟨4, [60], 0, 10⟩) rfl (by decide) (by decide)
  have h4 : OpTo b g go c tsA dp 4 6 7 exAy := leaf_op tsA_ok hd (t := ⟨0, [121], 0, 12⟩) rfl (by decide) (by decide) (t2 := ⟨5, [], 0, 13⟩) rfl (by decide) (by decide)
  have k1 := op_none (l := 3) (by omega) tsA_ok h1 (t := ⟨4, [43], 0, 2⟩) rfl (by decide)
  have k2 := op_one (l := 3) (n2 := 5) (by omega) tsA_ok h2 (t := ⟨4, [42], 0, 6⟩) rfl (by decide) rfl (by decide) h3 (t2 := ⟨4, [60], 0, 10⟩) rfl (.inr (by decide))
  have m1 := op_one (l := 2) (n2 := 5) (by omega) tsA_ok k1 (t := ⟨4, [43], 0, 2⟩) rfl (by decide) rfl (by decide) k2 (t2 := ⟨4, [60], 0, 10⟩) rfl (.inr (by decide))
  have k4 := op_none (l := 3) (by omega) tsA_ok h4 (t := ⟨5, [], 0, 13⟩) rfl (by decide)
  have m4 := op_none (l := 2) (by omega) tsA_ok k4 (t := ⟨5, [], 0, 13⟩) rfl (by decide)
  exact op_one (l := 1) (n2 := 7) (by omega) tsA_ok m1 (t := ⟨4, [60], 0, 10⟩) rfl (by decide) rfl (by decide) m4 (t2 := ⟨5, [], 0, 13⟩) rfl (.inl rfl)
theorem exprA (b g go c : Nat) (w : World) (h : PS w b g go c tsA 0 0) : Calls Tryz.prog 33 #[.pointer (some ⟨b, 0, none⟩)] w (ExprTo w b g go c tsA 7 0 exA) :=
  expr_any b g go c tsA 0 0 7 exA w h (by omega) (Lib.hid fun x w1 h1 h2 => expr1_op x b g go c tsA 0 1 7 exA ⟨3, [], 1, 0⟩ w1 h1 h2 rfl (by decide) (Lib.hid (opA b g go c 1 (by omega))))
/-- the number in the second text -/
theorem opB (b g go c dp : Nat) (hd : dp + 1 ≤ 400) : OpTo b g go c tsB dp 1 3 4 exA1 := by
  have h1 : OpTo b g go c tsB dp 4 3 4 exA1 := leaf_op tsB_ok hd (t := ⟨3, [], 1, 8⟩) rfl (by decide) (by decide) (t2 := ⟨5, [], 0, 9⟩) rfl (by decide) (by decide)
  have k1 := op_none (l := 3) (by omega) tsB_ok h1 (t := ⟨5, [], 0, 9⟩) rfl (by decide)
  have m1 := op_none (l := 2) (by omega) tsB_ok k1 (t := ⟨5, [], 0, 9⟩) rfl (by decide)
  exact op_none (l := 1) (by omega) tsB_ok m1 (t := ⟨5, [], 0, 9⟩) rfl (by decide)
theorem exprB (b g go c dp : Nat) (hd : dp + 2 ≤ 400) (w : World) (h : PS w b g go c tsB 3 dp) : Calls Tryz.prog 33 #[.pointer (some ⟨b, 0, none⟩)] w (ExprTo w b g go c tsB 4 dp exA1) :=
  expr_any b g go c tsB 3 dp 4 exA1 w h (by omega) (Lib.hid fun x w1 h1 h2 => expr1_op x b g go c tsB 3 (dp + 1) 4 exA1 ⟨3, [], 1, 8⟩ w1 h1 h2 rfl (by decide) (Lib.hid (opB b g go c (dp + 1) (by omega))))
end Go.Proofs.YtbmicnajedeenaaGreatDoor
/- The parser: a whole text is read by a rule. -/
namespace Go.Proofs.YtbmicnajedeenaaGreatDoor
open Go.RowKit

/-- a block of one cell -/
def B1 (w : World) (x ty : Nat) (v : Value) : Prop := w.heap[x]? = some (.cells #[v] ty (0, 0))
section
variable {w w' : World} {x ty : Nat} {v : Value}
theorem B1.lt (h : B1 w x ty v) : x < w.heap.size := (Array.getElem?_eq_some_iff.1 h).1
theorem B1.c (h : B1 w x ty v) : w.cell? ⟨x, 0, none⟩ = some v := cell_of_row w x 0 _ _ (0, 0) h
theorem B1.fr (h : B1 w x ty v) (i : Nat) : w.frozen? ⟨x, i, none⟩ = false := by
  unfold B1 at h; simp [World.frozen?, h]
theorem B1.new (w : World) (ty : Nat) (v : Value) : B1 (w.alloc (.cells #[v] ty)) w.heap.size ty v := heap_alloc_new w _
theorem B1.kept (h : B1 w x ty v) {row : Option Nat} (hg : w.grownBy w' row) (hne : some x ≠ row) : B1 w' x ty v := (hg.block x h.lt hne).trans h
theorem B1.set (h : B1 w x ty v) (u : Value) : B1 (w.setCell ⟨x, 0, none⟩ u) x ty u := by
  unfold B1 at h ⊢; simp [World.setCell, Array.getElem?_modify, h]
end

theorem catch_idle (x a5 a6 : Nat) (w : World) :
    CallsD Tryz.prog 118 #[.pointer (some ⟨x, 0, none⟩), .pointer (some ⟨a5, 0, none⟩), .pointer (some ⟨a6, 0, none⟩)] .returning w fun e u' w' => e = .returned (.tuple #[]) ∧ u' = .returning ∧ w' = w := by
  refine callsD_of_wpS Tryz.func118 rfl fun c₀ cs hu => ?_
  apply wpS_seq
  apply wpS_region
  simp [wpOpsS, go_sem, recoverD, hu, Tryz.ntmps118, Exit.thenS]
  simp only [Array.replicate_succ, Array.replicate_zero, List.push_toArray, List.setIfInBounds_toArray, List.set_cons_succ, List.set_cons_zero, List.append_toArray, List.nil_append, List.cons_append]
  refine wpS_of_wp ?_
  go_wp2_with fail
  cases c₀
  simp_all [bodyPostS, results, Tryz.results118]

theorem catch_fail (x a5 a6 b g go c : Nat) (ts : List Rt) (nx dp : Nat) (t : Rt) (v : Value) (w : World) (h : PS w b g go c ts nx dp) (hx : BoxP w x b) (ht : ts[nx]? = some t) (h5 : B1 w a5 3 v) (h6 : B1 w a6 35 v) (hne : a5 ≠ a6) :
    CallsD Tryz.prog 118 #[.pointer (some ⟨x, 0, none⟩), .pointer (some ⟨a5, 0, none⟩), .pointer (some ⟨a6, 0, none⟩)] (.panicking [{ v := failV, recovered := false }]) w fun e u' w' =>
      e = .returned (.tuple #[]) ∧ u' = .panicking [{ v := failV, recovered := true }] ∧ ∃ w1, Below w.heap.size w w1 ∧ w' = (w1.setCell ⟨a5, 0, none⟩ (.int .i64 t.p)).setCell ⟨a6, 0, none⟩ (.int .i64 2) := by
  have HP := Lib.hid (peek_any b g go c ts nx dp t w h ht)
  have x0 := hx.c
  have H5 := Lib.hid h5
  have H6 := Lib.hid h6
  have fl3 := tfield3
  have q1 : ¬ a5 = a6 := hne
  have q2 : ¬ a6 = a5 := fun e => hne e.symm
  obtain ⟨tk, tss, tn, tp⟩ := t
  obtain ⟨S, hS⟩ : ∃ S, S = strB tss := ⟨_, rfl⟩
  simp only at HP ⊢
  rw [← hS] at HP
  clear hS h hx ht h5 h6 hne
  refine callsD_of_wpS Tryz.func118 rfl fun c₀ cs hu => ?_
  apply wpS_seq
  apply wpS_region
  simp only [failV] at hu ⊢
  simp [wpOpsS, go_sem, recoverD, hu, Tryz.ntmps118, Exit.thenS]
  simp only [Array.replicate_succ, Array.replicate_zero, List.push_toArray, List.setIfInBounds_toArray, List.set_cons_succ, List.set_cons_zero, List.append_toArray, List.nil_append, List.cons_append]
  refine wpS_of_wp ?_
  go_wp2_with fail
  refine HP.out.mono ?_
  rintro e w1 ⟨rfl, hb⟩
  have H51 := Lib.hid (H5.out.kept (grown_below hb none) (by simp))
  have H61 := Lib.hid (H6.out.kept (grown_below hb none) (by simp))
  have HB := Lib.hid hb
  have c5 := H51.out.c
  have c6 := H61.out.c
  have f5 := H51.out.fr 0
  have f6 := H61.out.fr 0
  clear hb x0
  go_wp2_with fail
  refine ⟨rfl, _, rfl, .tuple #[], by simp [results, Tryz.results118, go_sem], rfl, rfl, w1, HB.out, rfl⟩
end Go.Proofs.YtbmicnajedeenaaGreatDoor
/- The parser: a whole text is read by a rule: what readAll returns. -/
namespace Go.Proofs.YtbmicnajedeenaaGreatDoor
open Go.RowKit

/-- the world behind the variables that readAll makes -/
def W0 (w : World) (b : Nat) : World :=
  (((w.alloc (.cells #[.pointer (some ⟨b, 0, none⟩)] 103)).alloc (.cells #[.int .i64 0, .int .i64 0, .string ⟨#[]⟩, .string ⟨#[]⟩, .slice none 0 0, .slice none 0 0, .slice none 0 0] 30)).alloc (.cells #[.int .i64 0] 3)).alloc (.cells #[.int .i64 0] 35)
theorem W0_grown (w : World) (b : Nat) (row : Option Nat) : w.grownBy (W0 w b) row :=
  grown_trans (grown_trans (grown_trans (World.grownBy_alloc _ _ _) (World.grownBy_alloc _ _ _)) (World.grownBy_alloc _ _ _)) (World.grownBy_alloc _ _ _)
theorem W0_size (w : World) (b : Nat) : (W0 w b).heap.size = w.heap.size + 4 := by simp [W0]
theorem W0_box (w : World) (b : Nat) : BoxP (W0 w b) w.heap.size b :=
  (((show BoxP (w.alloc (.cells #[.pointer (some ⟨b, 0, none⟩)] 103)) w.heap.size b from heap_alloc_new w _).kept (World.grownBy_alloc _ _ none) (by simp)).kept (World.grownBy_alloc _ _ none) (by simp)).kept (World.grownBy_alloc _ _ none) (by simp)
theorem W0_E (w : World) (b : Nat) : EB (W0 w b) (w.heap.size + 1) (.int .i64 0) (.int .i64 0) (.string ⟨#[]⟩) (.string ⟨#[]⟩) (.slice none 0 0) (.slice none 0 0) (.slice none 0 0) := by
  have := EB.new (w.alloc (.cells #[.pointer (some ⟨b, 0, none⟩)] 103)) (.int .i64 0) (.int .i64 0) (.string ⟨#[]⟩) (.string ⟨#[]⟩) (.slice none 0 0) (.slice none 0 0) (.slice none 0 0)
  rw [World.size_alloc] at this
  exact (this.kept (World.grownBy_alloc _ _ none) (by simp)).kept (World.grownBy_alloc _ _ none) (by simp)
theorem W0_5 (w : World) (b : Nat) : B1 (W0 w b) (w.heap.size + 1 + 1) 3 (.int .i64 0) := by
  have := B1.new ((w.alloc (.cells #[.pointer (some ⟨b, 0, none⟩)] 103)).alloc (.cells #[.int .i64 0, .int .i64 0, .string ⟨#[]⟩, .string ⟨#[]⟩, .slice none 0 0, .slice none 0 0, .slice none 0 0] 30)) 3 (.int .i64 0)
  rw [World.size_alloc, World.size_alloc] at this
  exact this.kept (World.grownBy_alloc _ _ none) (by simp)
theorem W0_6 (w : World) (b : Nat) : B1 (W0 w b) (w.heap.size + 1 + 1 + 1) 35 (.int .i64 0) := by
  have := B1.new (((w.alloc (.cells #[.pointer (some ⟨b, 0, none⟩)] 103)).alloc (.cells #[.int .i64 0, .int .i64 0, .string ⟨#[]⟩, .string ⟨#[]⟩, .slice none 0 0, .slice none 0 0, .slice none 0 0] 30)).alloc (.cells #[.int .i64 0] 3)) 35 (.int .i64 0)
  rw [World.size_alloc, World.size_alloc, World.size_alloc] at this
  exact this
/-- what readAll returns of a text that is read -/
def AllTo (w : World) (b : Nat) (ex : Ex) (e : Ending) (w' : World) : Prop :=
  ∃ (k n : Int) (s t : ByteArray) (A0 : Option Addr) (n0 c0 : Nat) (A1 : Option Addr) (n1 c1 : Nat) (A2 : Option Addr) (n2 c2 : Nat), e = .returned (.tuple #[.agg #[.int .i64 k, .int .i64 n, .string s, .string t, .slice A0 n0 c0, .slice A1 n1 c1, .slice A2 n2 c2], .int .i64 0, .int .i64 0]) ∧
    RepE (fun x => w.heap.size ≤ x) w' ex [.int .i64 k, .int .i64 n, .string s, .string t, .slice A0 n0 c0, .slice A1 n1 c1, .slice A2 n2 c2] ∧ w.grownBy w' (some b)

theorem res_all {tmps : Array Value} {w : World} {g a5 a6 : Nat} {v0 v1 v2 v3 v4 v5 v6 x5 x6 : Value} (h4 : tmps.getD 4 undef = .pointer (some ⟨g, 0, none⟩)) (h5 : tmps.getD 5 undef = .pointer (some ⟨a5, 0, none⟩)) (h6 : tmps.getD 6 undef = .pointer (some ⟨a6, 0, none⟩))
    (h : EB w g v0 v1 v2 v3 v4 v5 v6) (k5 : B1 w a5 3 x5) (k6 : B1 w a6 35 x6) :
    (results Tryz.f80 tmps).run Tryz.prog w = .ok (.tuple #[.agg #[v0, v1, v2, v3, v4, v5, v6], x5, x6]) w := by
  have c0 := h.c0
  have c1 := h.c1
  have c2 := h.c2
  have c3 := h.c3
  have c4 := h.c4
  have c5 := h.c5
  have c6 := h.c6
  have y5 := k5.c
  have y6 := k6.c
  have h4' : tmps[4]?.getD undef = .pointer (some ⟨g, 0, none⟩) := by simpa using h4
  have h5' : tmps[5]?.getD undef = .pointer (some ⟨a5, 0, none⟩) := by simpa using h5
  have h6' : tmps[6]?.getD undef = .pointer (some ⟨a6, 0, none⟩) := by simpa using h6
  simp [results, Tryz.results80, go_sem, h4', h5', h6', c0, c1, c2, c3, c4, c5, c6, y5, y6]

set_option maxRecDepth 100000 in
set_option maxHeartbeats 2000000 in
theorem readAll_ok (b g go c : Nat) (ts : List Rt) (nx : Nat) (ex : Ex) (t : Rt) (w : World) (h : PS w b g go c ts 0 0) (ht : ts[nx]? = some t) (hk : t.k = 5) (hlen : ts.length ≤ 100000)
    (HC : Hid (∀ w', PS w' b g go c ts 0 0 → Calls Tryz.prog 33 #[.pointer (some ⟨b, 0, none⟩)] w' (ExprTo w' b g go c ts nx 0 ex))) :
    Calls Tryz.prog 80 #[.pointer (some ⟨b, 0, none⟩), .func (.func 33) #[] #[]] w (AllTo w b ex) := by
  have hmf : ∀ (fn : Fn) (first cap : Array Value) (w : World), (Instr.makeFunc fn first cap).run Tryz.prog w = .ok (.func fn first cap) w := fun _ _ _ _ => rfl
  have hbl := h.blt
  have hgl := h.lt
  have HTk := Lib.hid (fun w h => token_ok b g go c ts nx 0 t w h ht hlen)
  rw [hk] at HTk
  have H0 : Hid (PS (W0 w b) b g go c ts 0 0) := h.kept (W0_grown w b none) (by simp) (by simp)
  have HX0 := Lib.hid (W0_box w b)
  have HE0 := Lib.hid (W0_E w b)
  have H50 := Lib.hid (W0_5 w b)
  have H60 := Lib.hid (W0_6 w b)
  have HG0 := Lib.hid (W0_grown w b (some b))
  have HZ0 := Lib.hid (W0_size w b)
  clear h ht hk hlen
  go_enter_defers Tryz.func80, Tryz.ntmps80
  go_wp2_with fail
  refine (HC.out _ H0.out).mono ?_
  rintro e w2 ⟨k, n, s, u, A0, n0, m0, A1, n1, m1, A2, n2, m2, rfl, hr, hw⟩
  have hz := HZ0.out
  have hzg := hw.2.size
  have HR2 := Lib.hid (hr.weaken (Q := fun x => w.heap.size + 4 ≤ x) (fun x hx => by omega)).tight
  have HP2 := Lib.hid hw.1
  have HX2 := Lib.hid (HX0.out.kept hw.2 (by simp; omega))
  have HE2 := Lib.hid (HE0.out.kept hw.2 (by simp; omega))
  have H52 := Lib.hid (H50.out.kept hw.2 (by simp; omega))
  have H62 := Lib.hid (H60.out.kept hw.2 (by simp; omega))
  have HG2 := Lib.hid (grown_trans HG0.out hw.2)
  have hz2 : w.heap.size + 4 ≤ w2.heap.size := by omega
  have x2 := HX2.out.c
  have x2l := HX2.out.lt
  clear hr hw hz hzg HC
  go_wp2_with fail
  obtain ⟨W3, hW3⟩ : ∃ W3, w2.alloc (.cells #[.int .i64 k, .int .i64 n, .string s, .string u, .slice A0 n0 m0, .slice A1 n1 m1, .slice A2 n2 m2] 30) = W3 := ⟨_, rfl⟩
  have hg3 : w2.grownBy W3 none := by rw [← hW3]; exact World.grownBy_alloc _ _ _
  have HP3 := Lib.hid (HP2.out.kept hg3 (by simp) (by simp))
  have HX3 := Lib.hid (HX2.out.kept hg3 (by simp))
  have HE3 := Lib.hid (HE2.out.kept hg3 (by simp))
  have H53 := Lib.hid (H52.out.kept hg3 (by simp))
  have H63 := Lib.hid (H62.out.kept hg3 (by simp))
  have HG3 := Lib.hid (grown_trans HG2.out (Below.grownBy' hg3))
  have HT3 : Hid (EB W3 w2.heap.size (.int .i64 k) (.int .i64 n) (.string s) (.string u) (.slice A0 n0 m0) (.slice A1 n1 m1) (.slice A2 n2 m2)) := by rw [← hW3]; exact EB.new w2 _ _ _ _ _ _ _
  have HR3 := Lib.hid (HR2.out.keep (Same.of_grown hg3 (fun _ _ => by simp)))
  rw [hW3]
  clear hW3 hg3 x2 x2l
  refine (HTk.out _ HP3.out).mono ?_
  rintro e w4 ⟨rfl, hw⟩
  have HX4 := Lib.hid (HX3.out.kept hw.2 (by simp; omega))
  have HE4 := Lib.hid (HE3.out.kept hw.2 (by simp; omega))
  have H54 := Lib.hid (H53.out.kept hw.2 (by simp; omega))
  have H64 := Lib.hid (H63.out.kept hw.2 (by simp; omega))
  have HT4 := Lib.hid (HT3.out.kept hw.2 (by simp; omega))
  have HG4 := Lib.hid (grown_trans HG3.out hw.2)
  have HR4 := Lib.hid (HR3.out.keep (Same.of_grown hw.2 (fun x hx => by have h1 := hx.1; simp; omega)))
  have e0 := HE4.out.c0
  have r0 := HE4.out.fr 0
  have d0 := HT4.out.c0
  have e1 := HE4.out.c1
  have r1 := HE4.out.fr 1
  have d1 := HT4.out.c1
  have e2 := HE4.out.c2
  have r2 := HE4.out.fr 2
  have d2 := HT4.out.c2
  have e3 := HE4.out.c3
  have r3 := HE4.out.fr 3
  have d3 := HT4.out.c3
  have e4 := HE4.out.c4
  have r4 := HE4.out.fr 4
  have d4 := HT4.out.c4
  have e5 := HE4.out.c5
  have r5 := HE4.out.fr 5
  have d5 := HT4.out.c5
  have e6 := HE4.out.c6
  have r6 := HE4.out.fr 6
  have d6 := HT4.out.c6
  have x5 := H54.out.c
  have y5 := H54.out.fr 0
  have x6 := H64.out.c
  have y6 := H64.out.fr 0
  clear hw
  go_wp2_with fail
  obtain ⟨W5, hW5⟩ : ∃ W5, ((set7 w4 (w.heap.size + 1) (.int .i64 k) (.int .i64 n) (.string s) (.string u) (.slice A0 n0 m0) (.slice A1 n1 m1) (.slice A2 n2 m2)).setCell ⟨w.heap.size + 1 + 1, 0, none⟩ (.int .i64 0)).setCell ⟨w.heap.size + 1 + 1 + 1, 0, none⟩ (.int .i64 0) = W5 := ⟨_, rfl⟩
  have HE5 : Hid (EB W5 (w.heap.size + 1) (.int .i64 k) (.int .i64 n) (.string s) (.string u) (.slice A0 n0 m0) (.slice A1 n1 m1) (.slice A2 n2 m2)) := by
    rw [← hW5]; exact ((HE4.out.all _ _ _ _ _ _ _).kept (grown_set _ ⟨w.heap.size + 1 + 1, 0, none⟩ _) (by simp)).kept (grown_set _ ⟨w.heap.size + 1 + 1 + 1, 0, none⟩ _) (by simp <;> omega)
  have H55 : Hid (B1 W5 (w.heap.size + 1 + 1) 3 (.int .i64 0)) := by
    rw [← hW5]; exact ((H54.out.kept (set7_grown _ _ _ _ _ _ _ _ _) (by simp <;> omega)).set _).kept (grown_set _ ⟨w.heap.size + 1 + 1 + 1, 0, none⟩ _) (by simp)
  have H65 : Hid (B1 W5 (w.heap.size + 1 + 1 + 1) 35 (.int .i64 0)) := by
    rw [← hW5]; exact ((H64.out.kept (set7_grown _ _ _ _ _ _ _ _ _) (by simp <;> omega)).kept (grown_set _ ⟨w.heap.size + 1 + 1, 0, none⟩ _) (by simp <;> omega)).set _
  have HR5 : Hid (RepE (fun x => w.heap.size ≤ x) W5 ex [.int .i64 k, .int .i64 n, .string s, .string u, .slice A0 n0 m0, .slice A1 n1 m1, .slice A2 n2 m2]) := by
    rw [← hW5]
    exact (((HR4.out.keep (Same.of_grown (set7_grown _ _ _ _ _ _ _ _ _) (fun x hx => by have h1 := hx.1; simp; omega))).keep (Same.of_grown (grown_set _ ⟨w.heap.size + 1 + 1, 0, none⟩ _) (fun x hx => by have h1 := hx.1; simp; omega))).keep (Same.of_grown (grown_set _ ⟨w.heap.size + 1 + 1 + 1, 0, none⟩ _) (fun x hx => by have h1 := hx.1; simp; omega))).weaken (fun x hx => by have h1 := hx.1; omega)
  have HG5 : Hid (w.grownBy W5 (some b)) := by
    rw [← hW5]; exact grown_new (grown_new (grown_7 HG4.out (by omega) _ _ _ _ _ _ _) (by omega) _) (by omega) _
  unfold set7 at hW5
  rw [hW5]
  clear hW5
  refine leaves_cons (f := 118) (args := #[.pointer (some ⟨w.heap.size, 0, none⟩), .pointer (some ⟨w.heap.size + 1 + 1, 0, none⟩), .pointer (some ⟨w.heap.size + 1 + 1 + 1, 0, none⟩)]) (by simp) (by simp [go_sem]) ?_
  refine (catch_idle _ _ _ _).mono ?_
  rintro e u' w'' ⟨rfl, rfl, rfl⟩
  exact ⟨_, res_all rfl rfl rfl HE5.out H55.out H65.out, k, n, s, u, A0, n0, m0, A1, n1, m1, A2, n2, m2, rfl, HR5.out, HG5.out⟩

/-- what readAll returns of a text that is not read -/
def AllFail (w : World) (b : Nat) (pos : Int) (e : Ending) (w' : World) : Prop :=
  e = .returned (.tuple #[.agg #[.int .i64 0, .int .i64 0, .string ⟨#[]⟩, .string ⟨#[]⟩, .slice none 0 0, .slice none 0 0, .slice none 0 0], .int .i64 pos, .int .i64 2]) ∧ w.grownBy w' (some b)
set_option maxRecDepth 100000 in
set_option maxHeartbeats 2000000 in
theorem readAll_fail (b g go c : Nat) (ts : List Rt) (nx : Nat) (t : Rt) (w : World) (h : PS w b g go c ts 0 0) (ht : ts[nx]? = some t)
    (HC : Hid (∀ w', PS w' b g go c ts 0 0 → Calls Tryz.prog 33 #[.pointer (some ⟨b, 0, none⟩)] w' (FailTo w' b g go c ts nx))) :
    Calls Tryz.prog 80 #[.pointer (some ⟨b, 0, none⟩), .func (.func 33) #[] #[]] w (AllFail w b t.p) := by
  have hmf : ∀ (fn : Fn) (first cap : Array Value) (w : World), (Instr.makeFunc fn first cap).run Tryz.prog w = .ok (.func fn first cap) w := fun _ _ _ _ => rfl
  have hbl := h.blt
  have hgl := h.lt
  have H0 : Hid (PS (W0 w b) b g go c ts 0 0) := h.kept (W0_grown w b none) (by simp) (by simp)
  have HX0 := Lib.hid (W0_box w b)
  have HE0 := Lib.hid (W0_E w b)
  have H50 := Lib.hid (W0_5 w b)
  have H60 := Lib.hid (W0_6 w b)
  have HG0 := Lib.hid (W0_grown w b (some b))
  have HZ0 := Lib.hid (W0_size w b)
  have HTn := Lib.hid ht
  clear h ht
  go_enter_defers Tryz.func80, Tryz.ntmps80
  go_wp2_with fail
  refine (HC.out _ H0.out).mono ?_
  rintro e w2 ⟨rfl, dp, hp, hg⟩
  have hz := HZ0.out
  have hzg := hg.size
  have HX2 := Lib.hid (HX0.out.kept hg (by simp; omega))
  have HE2 := Lib.hid (HE0.out.kept hg (by simp; omega))
  have H52 := Lib.hid (H50.out.kept hg (by simp; omega))
  have H62 := Lib.hid (H60.out.kept hg (by simp; omega))
  have HG2 := Lib.hid (grown_trans HG0.out hg)
  have hz2 : w.heap.size + 4 ≤ w2.heap.size := by omega
  refine leaves_cons (f := 118) (args := #[.pointer (some ⟨w.heap.size, 0, none⟩), .pointer (some ⟨w.heap.size + 1 + 1, 0, none⟩), .pointer (some ⟨w.heap.size + 1 + 1 + 1, 0, none⟩)]) (by simp) (by simp [go_sem]) ?_
  refine (catch_fail _ _ _ b g go c ts nx dp t (.int .i64 0) _ hp HX2.out HTn.out H52.out H62.out (by omega)).mono ?_
  rintro e u' w'' ⟨rfl, rfl, w3, hb, rfl⟩
  have HE3 := HE2.out.kept (grown_below hb none) (by simp)
  have H53 := H52.out.kept (grown_below hb none) (by simp)
  have H63 := H62.out.kept (grown_below hb none) (by simp)
  have HG3 := grown_trans HG2.out (grown_below hb _)
  refine ⟨_, res_all rfl rfl rfl ((HE3.kept (grown_set _ ⟨w.heap.size + 1 + 1, 0, none⟩ _) (by simp <;> omega)).kept (grown_set _ ⟨w.heap.size + 1 + 1 + 1, 0, none⟩ _) (by simp <;> omega)) ((H53.set _).kept (grown_set _ ⟨w.heap.size + 1 + 1 + 1, 0, none⟩ _) (by simp <;> omega)) ((H63.kept (grown_set _ ⟨w.heap.size + 1 + 1, 0, none⟩ _) (by simp <;> omega)).set _), rfl, grown_new (grown_new HG3 (by omega) _) (by omega) _⟩
end Go.Proofs.YtbmicnajedeenaaGreatDoor
/- The parser: what is needed; a rule that fails. -/
namespace Go.Proofs.YtbmicnajedeenaaGreatDoor
open Go.RowKit

set_option maxRecDepth 100000 in
set_option maxHeartbeats 400000 in
theorem need_ok (b g go c : Nat) (ts : List Rt) (nx dp : Nat) (t : Rt) (s : ByteArray) (w : World) (h : PS w b g go c ts nx dp) (ht : ts[nx]? = some t) (hs : t.s = s.data.toList) (hlen : ts.length ≤ 100000) :
    Calls Tryz.prog 122 #[.pointer (some ⟨b, 0, none⟩), .string s] w fun e w' => e = .returned (.tuple #[]) ∧ Went w w' b g go c ts (nx + 1) dp := by
  have HS := Lib.hid (skip_yes b g go c ts nx dp t s w h ht hs hlen)
  clear h ht hs hlen
  go_enter Tryz.func122, Tryz.ntmps122
  go_wp2_with fail
  refine HS.out.mono ?_
  rintro e w' ⟨rfl, hw⟩
  go_wp2_with fail
  go_end0
  exact ⟨rfl, hw⟩
set_option maxRecDepth 100000 in
set_option maxHeartbeats 400000 in
theorem need_fail (b g go c : Nat) (ts : List Rt) (nx dp : Nat) (t : Rt) (s : ByteArray) (w : World) (h : PS w b g go c ts nx dp) (ht : ts[nx]? = some t) (hs : t.s ≠ s.data.toList) :
    Calls Tryz.prog 122 #[.pointer (some ⟨b, 0, none⟩), .string s] w (FailTo w b g go c ts nx) := by
  have HS := Lib.hid (skip_no b g go c ts nx dp t s w h ht hs)
  have H := Lib.hid h
  clear h ht hs
  go_enter Tryz.func122, Tryz.ntmps122
  go_wp2_with fail
  refine HS.out.mono ?_
  rintro e w' ⟨rfl, hb⟩
  have HF := Lib.hid (fun w => fail_any (.pointer (some ⟨b, 0, none⟩)) w)
  go_wp2_with fail
  refine (HF.out _).mono ?_
  rintro e w1 ⟨rfl, rfl⟩
  exact ⟨rfl, rfl, dp, H.out.below hb, grown_below hb _⟩
end Go.Proofs.YtbmicnajedeenaaGreatDoor
/- The parser: an expression behind each of two tokens, the second of which is missing. -/
namespace Go.Proofs.YtbmicnajedeenaaGreatDoor
open Go.RowKit

theorem infoE : (Tryz.prog.info? 30).map (fun i => (i.zero, i.size, i.bytes)) = some (some (.agg #[.int .i64 0, .int .i64 0, .string ⟨#[]⟩, .string ⟨#[]⟩, .slice none 0 0, .slice none 0 0, .slice none 0 0]), 7, 120) := by kernel_rfl
theorem cell_new (w : World) (xs : List Value) (t : TypeId) : ∀ (j : Nat) (u : Value), xs[j]? = some u → (w.alloc (.cells xs.toArray t)).cell? ((⟨w.heap.size, 0, none⟩ : Addr).add j) = some u := by
  intro j u hj
  have := cellsAt_new w xs t j u hj
  have e : ((⟨w.heap.size, 0, none⟩ : Addr).add j) = ⟨w.heap.size, 0 + j, none⟩ := by
    simp only [Addr.add, Nat.zero_add]
    split <;> simp_all
  rw [e]
  exact this
/-- a list of two strings -/
def S2 (w : World) (q : Nat) (s1 s2 : ByteArray) : Prop := q < w.heap.size ∧ w.cell? ⟨q, 0, none⟩ = some (.string s1) ∧ w.cell? ⟨q, 1, none⟩ = some (.string s2)
theorem S2.kept {w w' : World} {q : Nat} {s1 s2 : ByteArray} (h : S2 w q s1 s2) {row : Option Nat} (hg : w.grownBy w' row) (hne : some q ≠ row) : S2 w' q s1 s2 :=
  ⟨Nat.lt_of_lt_of_le h.1 hg.size, (cell_grown hg h.1 hne).trans h.2.1, (cell_grown hg h.1 hne).trans h.2.2⟩

set_option maxRecDepth 100000 in
set_option maxHeartbeats 2000000 in
theorem behind_fail (q b g go c : Nat) (ts : List Rt) (nx dp nx2 : Nat) (ex : Ex) (t t2 : Rt) (s1 s2 : ByteArray) (w : World) (h : PS w b g go c ts nx dp) (hq : S2 w q s1 s2) (hqb : q ≠ b) (ht : ts[nx]? = some t) (hs1 : t.s = s1.data.toList) (ht2 : ts[nx2]? = some t2) (hs2 : t2.s ≠ s2.data.toList) (hlen : ts.length ≤ 100000)
    (HC : Hid (∀ w', PS w' b g go c ts (nx + 1) dp → Calls Tryz.prog 33 #[.pointer (some ⟨b, 0, none⟩)] w' (ExprTo w' b g go c ts nx2 dp ex))) :
    Calls Tryz.prog 85 #[.pointer (some ⟨b, 0, none⟩), .slice (some ⟨q, 0, none⟩) 2 2] w (FailTo w b g go c ts nx2) := by
  obtain ⟨i0, hi, hz0, hz1, hz2⟩ := info_parts infoE
  have HN1 := Lib.hid (fun w h => need_ok b g go c ts nx dp t s1 w h ht hs1 hlen)
  have HN2 := Lib.hid (fun w h => need_fail b g go c ts nx2 dp t2 s2 w h ht2 hs2)
  have H := Lib.hid h
  have HQ := Lib.hid hq
  have hbl := h.blt
  clear h hq ht hs1 ht2 hs2
  go_enter Tryz.func85, Tryz.ntmps85
  go_wp2_with fail
  go_loopw [4, 10] (fun v i wr => (i = .int .i64 0 ∧ v = .slice none 0 0 ∧ Hid (wr = w)) ∨ (i = .int .i64 1 ∧ Hid (PS wr b g go c ts nx2 dp) ∧ Hid (S2 wr q s1 s2) ∧ Hid (w.grownBy wr (some b)))) (fun _ i _ => 1 - (intOf i).toNat)
  case atStart => exact .inl ⟨rfl, rfl, Lib.hid rfl⟩
  case round =>
    rcases hrel with ⟨rfl, rfl, hw⟩ | ⟨rfl, hp, hq, hg⟩
    · obtain rfl := hw.out
      have q0 := HQ.out.2.1
      go_wp2_with fail
      refine (HN1.out _ H.out).mono ?_
      rintro e w1 ⟨rfl, hw⟩
      have HP1 := Lib.hid hw.1
      have HQ1 := Lib.hid (HQ.out.kept hw.2 (by simp; omega))
      have HG1 := Lib.hid hw.2
      clear hw q0
      go_wp2_with fail
      refine (HC.out _ HP1.out).mono ?_
      rintro e w2 ⟨k, n, s, u, A0, n0, m0, A1, n1, m1, A2, n2, m2, rfl, hr, hw⟩
      have HP2 := Lib.hid hw.1
      have HQ2 := Lib.hid (HQ1.out.kept hw.2 (by simp; omega))
      have HG2 := Lib.hid (grown_trans HG1.out hw.2)
      have hz := hw.2.size
      have hz1 := HG1.out.size
      clear hw hr
      go_wp2_with fail
      refine ⟨.inr ⟨rfl, ?_, ?_, ?_⟩, ?_⟩
      · exact Lib.hid (HP2.out.kept (grown_trans (grown_trans (grown_trans (World.grownBy_alloc w2 _ _) (World.grownBy_alloc _ _ _)) (World.grownBy_alloc _ _ _)) (grown_drewN _ 1 none)) (by simp) (by simp))
      · exact Lib.hid (HQ2.out.kept (grown_trans (grown_trans (grown_trans (World.grownBy_alloc w2 _ _) (World.grownBy_alloc _ _ _)) (World.grownBy_alloc _ _ _)) (grown_drewN _ 1 none)) (by simp))
      · exact Lib.hid (grown_trans HG2.out (grown_trans (grown_trans (grown_trans (World.grownBy_alloc w2 _ _) (World.grownBy_alloc _ _ _)) (World.grownBy_alloc _ _ _)) (grown_drewN _ 1 _)))
      · simp [intOf]
    · have q1 := hq.out.2.2
      go_wp2_with fail
      refine (HN2.out _ hp.out).mono ?_
      rintro e w1 ⟨rfl, dp', hp', hg'⟩
      exact ⟨rfl, rfl, dp', hp', grown_trans hg.out hg'⟩
end Go.Proofs.YtbmicnajedeenaaGreatDoor
/- The parser: a keyword's rule whose second token is missing. -/
namespace Go.Proofs.YtbmicnajedeenaaGreatDoor
open Go.RowKit

theorem infoN : (Tryz.prog.info? 9).map (fun i => (i.zero, i.size, i.bytes)) = some (some (.string ⟨#[]⟩), 1, 16) := by kernel_rfl
set_option maxRecDepth 100000 in
set_option maxHeartbeats 2000000 in
theorem open_fail (q b g go c : Nat) (ts : List Rt) (nx dp nx2 : Nat) (t : Rt) (s1 s2 : ByteArray) (w : World) (h : PS w b g go c ts nx dp) (hq : S2 w q s1 s2) (hqb : q ≠ b) (ht : ts[nx + 1]? = some t) (hk : t.k = 0) (hlen : ts.length ≤ 100000)
    (HC : Hid (∀ w', PS w' b g go c ts (nx + 1 + 1) dp → S2 w' q s1 s2 → Calls Tryz.prog 85 #[.pointer (some ⟨b, 0, none⟩), .slice (some ⟨q, 0, none⟩) 2 2] w' (FailTo w' b g go c ts nx2))) :
    Calls Tryz.prog 84 #[.pointer (some ⟨b, 0, none⟩), .int .i64 6, .int .i64 1, .slice (some ⟨q, 0, none⟩) 2 2] w (FailTo w b g go c ts nx2) := by
  obtain ⟨i0, hi, hz0, hz1, hz2⟩ := info_parts infoN
  have HL := Lib.hid (fun w h => lower_ok b g go c ts (nx + 1) dp t w h ht hk hlen)
  have hbl := h.blt
  have hgl := h.lt
  have hql := hq.1
  have hn := (List.getElem?_eq_some_iff.1 ht).1
  have H := Lib.hid h
  have HQ := Lib.hid hq
  have c1 := h.c1
  have f1 := h.fr 1
  have i1 : (nx : Int) + 1 ≤ 100000 := by omega
  have q1 : ¬ w.heap.size = b := by omega
  have q2 : ¬ b = w.heap.size := by omega
  have q3 : ¬ w.heap.size + 1 = b := by omega
  have q4 : ¬ b = w.heap.size + 1 := by omega
  clear h hq ht hk
  go_enter Tryz.func84, Tryz.ntmps84
  go_wp2_with fail
  obtain ⟨W, hW⟩ : ∃ W, ((w.setCell ⟨b, 1, none⟩ (.int .i64 ((nx : Int) + 1))).alloc (.cells #[.int .i64 0, .int .i64 0, .string ⟨#[]⟩, .string ⟨#[]⟩, .slice none 0 0, .slice none 0 0, .slice none 0 0] 30)).alloc (.cells #[.int .i64 6, .int .i64 0, .string ⟨#[]⟩, .string ⟨#[]⟩, .slice none 0 0, .slice none 0 0, .slice none 0 0] 30) = W := ⟨_, rfl⟩
  have HPW : Hid (PS W b g go c ts (nx + 1) dp) := by
    rw [← hW]
    have := H.out.set1 (nx + 1)
    rw [Int.natCast_add] at this
    exact (this.below ((Below.refl _ _).alloc (Nat.le_refl _) _)).below ((Below.refl _ _).alloc (Nat.le_refl _) _)
  have HGW : Hid (w.grownBy W (some b)) := by
    rw [← hW]; exact grown_trans (grown_trans (grown_set _ ⟨b, 1, none⟩ _) (World.grownBy_alloc _ _ _)) (World.grownBy_alloc _ _ _)
  have HQW := Lib.hid (HQ.out.kept HGW.out (by simp; omega))
  have HEW : Hid (EB W (w.heap.size + 1) (.int .i64 6) (.int .i64 0) (.string ⟨#[]⟩) (.string ⟨#[]⟩) (.slice none 0 0) (.slice none 0 0) (.slice none 0 0)) := by
    rw [← hW]
    have := EB.new ((w.setCell ⟨b, 1, none⟩ (.int .i64 ((nx : Int) + 1))).alloc (.cells #[.int .i64 0, .int .i64 0, .string ⟨#[]⟩, .string ⟨#[]⟩, .slice none 0 0, .slice none 0 0, .slice none 0 0] 30)) (.int .i64 6) (.int .i64 0) (.string ⟨#[]⟩) (.string ⟨#[]⟩) (.slice none 0 0) (.slice none 0 0) (.slice none 0 0)
    rw [World.size_alloc, size_set] at this
    exact this
  rw [hW]
  clear hW c1 f1 H HQ
  go_loopw [23] (fun i wr => (i = .int .i64 0 ∧ Hid (wr = W)) ∨ (i = .int .i64 1 ∧ Hid (PS wr b g go c ts (nx + 1 + 1) dp) ∧ Hid (S2 wr q s1 s2) ∧ Hid (w.grownBy wr (some b)))) (fun i _ => 1 - (intOf i).toNat)
  case atStart => exact .inl ⟨rfl, Lib.hid rfl⟩
  case round =>
    rcases hrel with ⟨rfl, hw⟩ | ⟨rfl, hp, hq, hg⟩
    · obtain rfl := hw.out
      go_wp2_with fail
      refine (HL.out _ HPW.out).mono ?_
      rintro e w1 ⟨rfl, hw⟩
      have HP1 := Lib.hid hw.1
      have HQ1 := Lib.hid (HQW.out.kept hw.2 (by simp; omega))
      have HG1 := Lib.hid (grown_trans HGW.out hw.2)
      have HE1 := Lib.hid (HEW.out.kept hw.2 (by simp; omega))
      have e4 := HE1.out.c4
      have r4 := HE1.out.fr 4
      have hz := HE1.out.lt
      have HN := Lib.hid (cell_new w1 [.string (strB t.s)] 9)
      clear hw q1 q2 q3 q4 i1 hn
      go_wp2_with (at_builtin; refine wpList_append_own _ rfl _ _ 26 rfl w1.heap.size 9 i0 (.string ⟨#[]⟩) 1 16 Tryz.underlying26 hi hz0 hz1 hz2 rfl (by decide) (.slice none 0 0) 0 [] rfl (World.ownsRow_nil _ _ _ _) ⟨w1.heap.size, 0, none⟩ 1 1 [.string (strB t.s)] rfl rfl HN.out (by intro u hu; simp only [List.mem_cons, List.not_mem_nil, or_false] at hu; subst hu; rfl) (by unfold maxLen; omega) (by omega) (by simp) ?_; intro v' w3 hown' hgrow _; obtain ⟨gg, cap, rfl⟩ := ownsRow_succ hown'; have hgr : w1.grownBy w3 none := grown_trans (World.grownBy_alloc w1 _ none) hgrow; have HG3 := Lib.hid hgr; have HE3 := Lib.hid (HE1.out.kept hgr (by simp)); have e4' := HE3.out.c4; have r4' := HE3.out.fr 4; clear hown' hgrow hgr)
      refine ⟨.inr ⟨rfl, Lib.hid ((HP1.out.kept HG3.out (by simp) (by simp)).kept (grown_set _ ⟨w.heap.size + 1, 4, none⟩ _) (by simp; omega) (by simp; omega)), Lib.hid ((HQ1.out.kept HG3.out (by simp)).kept (grown_set _ ⟨w.heap.size + 1, 4, none⟩ _) (by simp; omega)), Lib.hid (grown_new (grown_trans HG1.out (Below.grownBy' HG3.out)) (by omega) _)⟩, by simp [intOf]⟩
    · go_wp2_with fail
      refine (HC.out _ hp.out hq.out).mono ?_
      rintro e w1 ⟨rfl, dp', hp', hg'⟩
      exact ⟨rfl, rfl, dp', hp', grown_trans hg.out hg'⟩
end Go.Proofs.YtbmicnajedeenaaGreatDoor
/- The parser: the second example is not read. -/
namespace Go.Proofs.YtbmicnajedeenaaGreatDoor
open Go.RowKit

theorem S2.new (w : World) (s1 s2 : ByteArray) (ty : Nat) : S2 (w.alloc (.cells #[.string s1, .string s2] ty)) w.heap.size s1 s2 :=
  ⟨by simp, cell_of_row _ _ 0 _ _ (0, 0) (heap_alloc_new w _), cell_of_row _ _ 1 _ _ (0, 0) (heap_alloc_new w _)⟩

set_option maxRecDepth 100000 in
set_option maxHeartbeats 2000000 in
theorem expr1_let_fail (x b g go c : Nat) (ts : List Rt) (nx dp nx' : Nat) (t : Rt) (w : World) (h : PS w b g go c ts nx dp) (hx : BoxP w x b) (ht : ts[nx]? = some t) (hn : t.s = [108, 101, 116])
    (HC : Hid (∀ q w', PS w' b g go c ts nx dp → S2 w' q ⟨#[61]⟩ ⟨#[105, 110]⟩ → q ≠ b → Calls Tryz.prog 84 #[.pointer (some ⟨b, 0, none⟩), .int .i64 6, .int .i64 1, .slice (some ⟨q, 0, none⟩) 2 2] w' (FailTo w' b g go c ts nx'))) :
    Calls Tryz.prog 82 #[.pointer (some ⟨x, 0, none⟩)] w (FailTo w b g go c ts nx') := by
  have hbl := h.blt
  have HP := Lib.hid (fun w h => peek_any b g go c ts nx dp t w h ht)
  have H0 : Hid (PS (w.alloc (.cells #[.int .i64 0, .int .i64 0, .string ⟨#[]⟩, .string ⟨#[]⟩, .slice none 0 0, .slice none 0 0, .slice none 0 0] 30)) b g go c ts nx dp) := h.below ((Below.refl _ _).alloc (Nat.le_refl _) _)
  have HX0 : Hid (BoxP (w.alloc (.cells #[.int .i64 0, .int .i64 0, .string ⟨#[]⟩, .string ⟨#[]⟩, .slice none 0 0, .slice none 0 0, .slice none 0 0] 30)) x b) := hx.kept (World.grownBy_alloc w _ none) (by simp)
  have HG0 : Hid (w.grownBy _ (some b)) := World.grownBy_alloc w (.cells #[.int .i64 0, .int .i64 0, .string ⟨#[]⟩, .string ⟨#[]⟩, .slice none 0 0, .slice none 0 0, .slice none 0 0] 30) (some b)
  have x0 := hx.c
  have hxl := hx.lt
  obtain ⟨S, hS⟩ : ∃ S, S = strB t.s := ⟨_, rfl⟩
  have q1 := ne_list hS (show t.s ≠ [102, 117, 110] by rw [hn]; decide)
  have q2 := eq_list hS hn
  have fl1 := tfield1
  obtain ⟨tk, tss, tn, tp⟩ := t
  simp only at HP hS
  rw [← hS] at HP
  clear h hx ht hS hn
  go_enter Tryz.func82, Tryz.ntmps82
  go_wp2_with fail
  refine (HP.out _ H0.out).mono ?_
  rintro e w1 ⟨rfl, hb⟩
  have HP1 := Lib.hid (H0.out.below hb)
  have HX1 := Lib.hid (HX0.out.kept (grown_below hb none) (by simp))
  have HG1 := Lib.hid (grown_trans HG0.out (grown_below hb _))
  have x1 := HX1.out.c
  have hb1 := HP1.out.blt
  clear hb x0
  go_wp2_with fail
  refine (HC.out w1.heap.size _ (HP1.out.below ((Below.refl _ _).alloc (Nat.le_refl _) _)) (S2.new w1 _ _ _) (by omega)).mono ?_
  rintro e w2 ⟨rfl, dp', hp, hg⟩
  exact ⟨rfl, rfl, dp', hp, grown_trans HG1.out (grown_trans (World.grownBy_alloc _ _ _) hg)⟩

theorem exprFailB (b g go c : Nat) (w : World) (h : PS w b g go c tsB 0 0) : Calls Tryz.prog 33 #[.pointer (some ⟨b, 0, none⟩)] w (FailTo w b g go c tsB 4) :=
  expr_any_fail b g go c tsB 0 0 4 w h (by omega) (Lib.hid fun x w1 h1 h2 => expr1_let_fail x b g go c tsB 0 1 4 ⟨1, [108, 101, 116], 0, 0⟩ w1 h1 h2 rfl rfl (Lib.hid fun q w2 h3 h4 h5 =>
    open_fail q b g go c tsB 0 1 4 ⟨0, [120], 0, 4⟩ ⟨#[61]⟩ ⟨#[105, 110]⟩ w2 h3 h4 h5 rfl rfl (by decide) (Lib.hid fun w3 h6 h7 =>
      behind_fail q b g go c tsB 2 1 4 exA1 ⟨4, [61], 0, 6⟩ ⟨5, [], 0, 9⟩ ⟨#[61]⟩ ⟨#[105, 110]⟩ w3 h6 h7 h5 rfl rfl rfl (by decide) (by decide) (Lib.hid fun w4 h8 => exprB b g go c 1 (by omega) w4 h8))))
end Go.Proofs.YtbmicnajedeenaaGreatDoor
/- The parser: a whole text. -/
namespace Go.Proofs.YtbmicnajedeenaaGreatDoor
open Go.RowKit

theorem flat_at : ∀ (ts : List Tk) (j i : Nat) (t : Tk), ts[j]? = some t → i < 4 → (flat ts)[j * 4 + i]? = (tkCells t)[i]?
  | [], j, i, t, h, _ => by simp at h
  | x :: r, 0, i, t, h, hi => by
    simp only [List.getElem?_cons_zero, Option.some.injEq] at h
    subst h
    show ([_, _, _, _] ++ flat r)[0 * 4 + i]? = _
    rw [List.getElem?_append_left (by simp; omega)]
    simp [tkCells]
  | x :: r, j + 1, i, t, h, hi => by
    simp only [List.getElem?_cons_succ] at h
    have ih := flat_at r j i t h hi
    show ([_, _, _, _] ++ flat r)[(j + 1) * 4 + i]? = _
    rw [List.getElem?_append_right (by simp; omega), ← ih]
    congr 1
    simp only [List.length_cons, List.length_nil]
    omega
def rtOf (x : Tk) : Rt := ⟨x.kind, x.s, x.n, x.pos⟩
theorem tok_cells {w : World} {base g cap : Nat} {xs : List Tk} {x : Tk} {ts : List Rt} (hts : (xs ++ [x]).map rtOf = ts) (h : w.ownsRow base 146 4 (.slice (some ⟨g, 0, none⟩) (xs.length + 1) cap) (xs.length + 1) (flat xs ++ tkCells x)) :
    ∀ (j : Nat) (t : Rt), ts[j]? = some t → CellsAt w g (0 + j * 4) t.cells := by
  intro j t hj i v hi
  rw [← hts, List.getElem?_map] at hj
  cases hx : (xs ++ [x])[j]? with
  | none => rw [hx] at hj; cases hj
  | some y =>
    rw [hx] at hj
    simp only [Option.map_some, Option.some.injEq] at hj
    subst hj
    have hjl := (List.getElem?_eq_some_iff.1 hx).1
    simp only [List.length_append, List.length_cons, List.length_nil] at hjl
    have hil : i < 4 := (List.getElem?_eq_some_iff.1 hi).1
    have h1 := flat_at (xs ++ [x]) j i y hx hil
    rw [flat_snoc] at h1
    rw [show 0 + j * 4 + i = j * 4 + i by omega, h.cellAt (j * 4 + i) (by omega), h1]
    exact hi

/-- what parse returns of a text that is read -/
def ParseTo (w : World) (ex : Ex) (e : Ending) (w' : World) : Prop :=
  ∃ (k n : Int) (s t : ByteArray) (A0 : Option Addr) (n0 c0 : Nat) (A1 : Option Addr) (n1 c1 : Nat) (A2 : Option Addr) (n2 c2 : Nat), e = .returned (.tuple #[.agg #[.int .i64 k, .int .i64 n, .string s, .string t, .slice A0 n0 c0, .slice A1 n1 c1, .slice A2 n2 c2], .int .i64 0, .int .i64 0]) ∧
    RepE (fun x => w.heap.size ≤ x) w' ex [.int .i64 k, .int .i64 n, .string s, .string t, .slice A0 n0 c0, .slice A1 n1 c1, .slice A2 n2 c2] ∧ Below w.heap.size w w'
/-- what parse returns of a text that is not read -/
def ParseFail (w : World) (pos : Int) (e : Ending) (w' : World) : Prop :=
  e = .returned (.tuple #[.agg #[.int .i64 0, .int .i64 0, .string ⟨#[]⟩, .string ⟨#[]⟩, .slice none 0 0, .slice none 0 0, .slice none 0 0], .int .i64 pos, .int .i64 2]) ∧ Below w.heap.size w w'
theorem res_parse {tmps : Array Value} {w : World} {g : Nat} {v0 v1 v2 v3 v4 v5 v6 x5 x6 : Value} (h4 : tmps.getD 6 undef = .pointer (some ⟨g, 0, none⟩)) (h5 : tmps.getD 7 undef = x5) (h6 : tmps.getD 8 undef = x6) (h : EB w g v0 v1 v2 v3 v4 v5 v6) :
    (results Tryz.f32 tmps).run Tryz.prog w = .ok (.tuple #[.agg #[v0, v1, v2, v3, v4, v5, v6], x5, x6]) w := by
  have c0 := h.c0
  have c1 := h.c1
  have c2 := h.c2
  have c3 := h.c3
  have c4 := h.c4
  have c5 := h.c5
  have c6 := h.c6
  have h4' : tmps[6]?.getD undef = .pointer (some ⟨g, 0, none⟩) := by simpa using h4
  have h5' : tmps[7]?.getD undef = x5 := by simpa using h5
  have h6' : tmps[8]?.getD undef = x6 := by simpa using h6
  simp [results, Tryz.results32, go_sem, h4', h5', h6', c0, c1, c2, c3, c4, c5, c6]

set_option maxRecDepth 100000 in
set_option maxHeartbeats 4000000 in
theorem parse_fail (s : ByteArray) (xs : List Tk) (ts : List Rt) (pos : Int) (w : World) (hY : Syms w) (hs : s.size ≤ 30000) (hlex : lexS s.data.toList = (xs, 0, 0)) (hx : 0 < xs.length ∧ xs.length ≤ 1000) (hts : (xs ++ [(⟨5, [], 0, s.size⟩ : Tk)]).map rtOf = ts)
    (HR : Hid (∀ b g go c w', PS w' b g go c ts 0 0 → Calls Tryz.prog 80 #[.pointer (some ⟨b, 0, none⟩), .func (.func 33) #[] #[]] w' (AllFail w' b pos))) :
    Calls Tryz.prog 32 #[.string s, .func (.func 33) #[] #[], .func (.func 11) #[] #[]] w (ParseFail w pos) := by
  obtain ⟨i0, hi, hz0, hz1, hz2⟩ := info_parts info43
  have hmax : s.size ≤ maxLen := by unfold maxLen; omega
  have HL := Lib.hid (fun w hY => Lex_any s w hY hmax)
  rw [hlex] at HL
  have HYs : Hid (Syms (w.alloc (.cells #[.int .i64 0, .int .i64 0, .string ⟨#[]⟩, .string ⟨#[]⟩, .slice none 0 0, .slice none 0 0, .slice none 0 0] 30))) := hY.grown (World.grownBy_alloc _ _ none) (by simp)
  have HE0 := Lib.hid (EB.new w (.int .i64 0) (.int .i64 0) (.string ⟨#[]⟩) (.string ⟨#[]⟩) (.slice none 0 0) (.slice none 0 0) (.slice none 0 0))
  have HZ : Hid ((w.alloc (.cells #[.int .i64 0, .int .i64 0, .string ⟨#[]⟩, .string ⟨#[]⟩, .slice none 0 0, .slice none 0 0, .slice none 0 0] 30)).heap.size = w.heap.size + 1) := Lib.hid (World.size_alloc _ _)
  have HB0 : Hid (Below w.heap.size w (w.alloc (.cells #[.int .i64 0, .int .i64 0, .string ⟨#[]⟩, .string ⟨#[]⟩, .slice none 0 0, .slice none 0 0, .slice none 0 0] 30))) := Lib.hid ((Below.refl _ _).alloc (Nat.le_refl _) _)
  have hlen : ts.length = xs.length + 1 := by rw [← hts]; simp
  have htok := Lib.hid (fun (w' : World) (base g cap : Nat) (h : w'.ownsRow base 146 4 (.slice (some ⟨g, 0, none⟩) (xs.length + 1) cap) (xs.length + 1) (flat xs ++ tkCells ⟨5, [], 0, s.size⟩)) => tok_cells (ts := ts) (xs := xs) (x := ⟨5, [], 0, s.size⟩) hts h)
  have hxl : 0 < xs.length ∧ xs.length ≤ 1000 := hx
  clear hts hx hlex hY hmax
  go_enter Tryz.func32, Tryz.ntmps32
  go_wp2_with fail
  refine (HL.out _ HYs.out).mono ?_
  rintro e w2 ⟨v, rfl, ho, hb⟩
  simp only at ho ⊢
  rcases ho.2 with ⟨_, h0⟩ | ⟨g0, cap0, cur, rfl, hg0, _⟩
  · omega
  have hzz := HZ.out
  have ho' := ho
  rw [hzz] at ho' hg0
  have HO2 := Lib.hid ho'
  have HE2 := Lib.hid (HE0.out.kept (grown_below hb none) (by simp))
  have HB2 : Hid (Below w.heap.size w w2) := HB0.out.trans (hb.mono (by omega))
  have hzw : w.heap.size + 1 ≤ w2.heap.size := by have := hb.size; omega
  have hgz : w.heap.size + 1 ≤ g0 := hg0
  have HC := Lib.hid (cell_toks w2 ⟨5, [], 0, s.size⟩ 146)
  clear ho ho' hb hzz HE0 HB0 HYs HL hg0
  go_wp2_with (at_builtin; refine wpList_append_own _ rfl _ _ 141 rfl (w.heap.size + 1) 146 i0 (.agg #[.int .i64 0, .string ⟨#[]⟩, .int .i64 0, .int .i64 0]) 4 40 Tryz.underlying141 hi hz0 hz1 hz2 rfl (by decide) _ _ _ rfl (HO2.out.alloc _) ⟨w2.heap.size, 0, none⟩ 1 1 (tkCells ⟨5, [], 0, s.size⟩) rfl rfl HC.out (tk_one ⟨5, [], 0, s.size⟩) (by unfold maxLen; omega) (by omega) (by simp; omega) ?_; intro v' w3 hown' hgrow _; obtain ⟨g, cap, rfl⟩ := ownsRow_succ hown'; have HT3 := Lib.hid (htok.out _ _ _ _ hown'); have HGr := Lib.hid hgrow; have hgl3 := (hown'.lt _ rfl).2; clear hown' hgrow)
  have hz3 : w2.heap.size + 1 ≤ w3.heap.size := by have := HGr.out.size; simpa using this
  have HB3 : Hid (Below w.heap.size w w3) := Lib.hid ((HB2.out.alloc (by omega) _).grown HGr.out (by simp; omega) (fun j e => by have : g0 = j := Option.some.inj e; omega))
  have HE3 := Lib.hid (HE2.out.kept (grown_trans (World.grownBy_alloc w2 _ _) HGr.out) (fun e => by have : w.heap.size = g0 := Option.some.inj e; omega))
  clear HGr HO2 HC HE2 HB2
  refine (HR.out w3.heap.size g 0 cap _ ⟨by rw [hlen]; exact heap_alloc_new w3 _, by omega, by simp; omega, fun j t hj i v hi => (cell_grown (World.grownBy_alloc w3 _ none) hgl3 (by simp)).trans (HT3.out j t hj i v hi)⟩).mono ?_
  rintro e w5 ⟨rfl, hg5⟩
  have HB5 : Hid (Below w.heap.size w w5) := Lib.hid ((HB3.out.alloc (by omega) _).grown hg5 (by simp; omega) (fun j e => by cases e; omega))
  have HE5 := Lib.hid ((HE3.out.kept (World.grownBy_alloc w3 _ none) (by simp)).kept hg5 (by simp; omega))
  have hz5 := HE5.out.lt
  have e0 := HE5.out.c0
  have r0 := HE5.out.fr 0
  have e1 := HE5.out.c1
  have r1 := HE5.out.fr 1
  have e2 := HE5.out.c2
  have r2 := HE5.out.fr 2
  have e3 := HE5.out.c3
  have r3 := HE5.out.fr 3
  have e4 := HE5.out.c4
  have r4 := HE5.out.fr 4
  have e5 := HE5.out.c5
  have r5 := HE5.out.fr 5
  have e6 := HE5.out.c6
  have r6 := HE5.out.fr 6
  clear hg5
  go_wp2_with fail
  exact bodyPost_ret (res_parse rfl rfl rfl ((HE5.out.all _ _ _ _ _ _ _).kept (World.grownBy_alloc _ _ none) (by simp))) rfl ⟨rfl, (HB5.out.grown (set7_grown _ _ _ _ _ _ _ _ _) (by omega) (fun j e => by have : w.heap.size = j := Option.some.inj e; omega)).alloc (by show _ ≤ (set7 _ _ _ _ _ _ _ _ _).heap.size; simp [set7, World.setCell]; omega) _⟩
end Go.Proofs.YtbmicnajedeenaaGreatDoor
/- The parser: a whole text that is read. -/
namespace Go.Proofs.YtbmicnajedeenaaGreatDoor
open Go.RowKit

set_option maxRecDepth 100000 in
set_option maxHeartbeats 4000000 in
theorem parse_ok (s : ByteArray) (xs : List Tk) (ts : List Rt) (ex : Ex) (w : World) (hY : Syms w) (hs : s.size ≤ 30000) (hlex : lexS s.data.toList = (xs, 0, 0)) (hx : 0 < xs.length ∧ xs.length ≤ 1000) (hts : (xs ++ [(⟨5, [], 0, s.size⟩ : Tk)]).map rtOf = ts)
    (HR : Hid (∀ b g go c w', PS w' b g go c ts 0 0 → Calls Tryz.prog 80 #[.pointer (some ⟨b, 0, none⟩), .func (.func 33) #[] #[]] w' (AllTo w' b ex)))
    (HK : Hid (∀ k n s t A0 n0 c0 A1 n1 c1 A2 n2 c2 w', Below w.heap.size w w' → RepE (fun x => w.heap.size ≤ x) w' ex [.int .i64 k, .int .i64 n, .string s, .string t, .slice A0 n0 c0, .slice A1 n1 c1, .slice A2 n2 c2] → Calls Tryz.prog 11 #[.agg #[.int .i64 k, .int .i64 n, .string s, .string t, .slice A0 n0 c0, .slice A1 n1 c1, .slice A2 n2 c2]] w' fun e w'' => e = .returned (.int .i64 0) ∧ Below w'.heap.size w' w'')) :
    Calls Tryz.prog 32 #[.string s, .func (.func 33) #[] #[], .func (.func 11) #[] #[]] w (ParseTo w ex) := by
  obtain ⟨i0, hi, hz0, hz1, hz2⟩ := info_parts info43
  have hmax : s.size ≤ maxLen := by unfold maxLen; omega
  have HL := Lib.hid (fun w hY => Lex_any s w hY hmax)
  rw [hlex] at HL
  have HYs : Hid (Syms (w.alloc (.cells #[.int .i64 0, .int .i64 0, .string ⟨#[]⟩, .string ⟨#[]⟩, .slice none 0 0, .slice none 0 0, .slice none 0 0] 30))) := hY.grown (World.grownBy_alloc _ _ none) (by simp)
  have HE0 := Lib.hid (EB.new w (.int .i64 0) (.int .i64 0) (.string ⟨#[]⟩) (.string ⟨#[]⟩) (.slice none 0 0) (.slice none 0 0) (.slice none 0 0))
  have HZ : Hid ((w.alloc (.cells #[.int .i64 0, .int .i64 0, .string ⟨#[]⟩, .string ⟨#[]⟩, .slice none 0 0, .slice none 0 0, .slice none 0 0] 30)).heap.size = w.heap.size + 1) := Lib.hid (World.size_alloc _ _)
  have HB0 : Hid (Below w.heap.size w (w.alloc (.cells #[.int .i64 0, .int .i64 0, .string ⟨#[]⟩, .string ⟨#[]⟩, .slice none 0 0, .slice none 0 0, .slice none 0 0] 30))) := Lib.hid ((Below.refl _ _).alloc (Nat.le_refl _) _)
  have hlen : ts.length = xs.length + 1 := by rw [← hts]; simp
  have htok := Lib.hid (fun (w' : World) (base g cap : Nat) (h : w'.ownsRow base 146 4 (.slice (some ⟨g, 0, none⟩) (xs.length + 1) cap) (xs.length + 1) (flat xs ++ tkCells ⟨5, [], 0, s.size⟩)) => tok_cells (ts := ts) (xs := xs) (x := ⟨5, [], 0, s.size⟩) hts h)
  have hxl : 0 < xs.length ∧ xs.length ≤ 1000 := hx
  clear hts hx hlex hY hmax
  go_enter Tryz.func32, Tryz.ntmps32
  go_wp2_with fail
  refine (HL.out _ HYs.out).mono ?_
  rintro e w2 ⟨v, rfl, ho, hb⟩
  simp only at ho ⊢
  rcases ho.2 with ⟨_, h0⟩ | ⟨g0, cap0, cur, rfl, hg0, _⟩
  · omega
  have hzz := HZ.out
  have ho' := ho
  rw [hzz] at ho' hg0
  have HO2 := Lib.hid ho'
  have HE2 := Lib.hid (HE0.out.kept (grown_below hb none) (by simp))
  have HB2 : Hid (Below w.heap.size w w2) := HB0.out.trans (hb.mono (by omega))
  have hzw : w.heap.size + 1 ≤ w2.heap.size := by have := hb.size; omega
  have hgz : w.heap.size + 1 ≤ g0 := hg0
  have HC := Lib.hid (cell_toks w2 ⟨5, [], 0, s.size⟩ 146)
  clear ho ho' hb hzz HE0 HB0 HYs HL hg0
  go_wp2_with (at_builtin; refine wpList_append_own _ rfl _ _ 141 rfl (w.heap.size + 1) 146 i0 (.agg #[.int .i64 0, .string ⟨#[]⟩, .int .i64 0, .int .i64 0]) 4 40 Tryz.underlying141 hi hz0 hz1 hz2 rfl (by decide) _ _ _ rfl (HO2.out.alloc _) ⟨w2.heap.size, 0, none⟩ 1 1 (tkCells ⟨5, [], 0, s.size⟩) rfl rfl HC.out (tk_one ⟨5, [], 0, s.size⟩) (by unfold maxLen; omega) (by omega) (by simp; omega) ?_; intro v' w3 hown' hgrow _; obtain ⟨g, cap, rfl⟩ := ownsRow_succ hown'; have HT3 := Lib.hid (htok.out _ _ _ _ hown'); have HGr := Lib.hid hgrow; have hgl3 := (hown'.lt _ rfl).2; clear hown' hgrow)
  have hz3 : w2.heap.size + 1 ≤ w3.heap.size := by have := HGr.out.size; simpa using this
  have HB3 : Hid (Below w.heap.size w w3) := Lib.hid ((HB2.out.alloc (by omega) _).grown HGr.out (by simp; omega) (fun j e => by have : g0 = j := Option.some.inj e; omega))
  have HE3 := Lib.hid (HE2.out.kept (grown_trans (World.grownBy_alloc w2 _ _) HGr.out) (fun e => by have : w.heap.size = g0 := Option.some.inj e; omega))
  clear HGr HO2 HC HE2 HB2
  refine (HR.out w3.heap.size g 0 cap _ ⟨by rw [hlen]; exact heap_alloc_new w3 _, by omega, by simp; omega, fun j t hj i v hi => (cell_grown (World.grownBy_alloc w3 _ none) hgl3 (by simp)).trans (HT3.out j t hj i v hi)⟩).mono ?_
  rintro e w5 ⟨k, n, u, t, A0, n0, m0, A1, n1, m1, A2, n2, m2, rfl, hr5, hg5⟩
  have HB5 : Hid (Below w.heap.size w w5) := Lib.hid ((HB3.out.alloc (by omega) _).grown hg5 (by simp; omega) (fun j e => by cases e; omega))
  have HE5 := Lib.hid ((HE3.out.kept (World.grownBy_alloc w3 _ none) (by simp)).kept hg5 (by simp; omega))
  have hz5 := HE5.out.lt
  have HR5 : Hid (RepE (fun x => w.heap.size < x ∧ x < w5.heap.size) w5 ex [.int .i64 k, .int .i64 n, .string u, .string t, .slice A0 n0 m0, .slice A1 n1 m1, .slice A2 n2 m2]) := Lib.hid (hr5.tight.weaken (fun x hx => by have h1 := hx.1; have h2 := hx.2; simp at h1; omega))
  clear hg5 hr5
  go_wp2_with fail
  refine (HK.out k n u t A0 n0 m0 A1 n1 m1 A2 n2 m2 _ (HB5.out.alloc HB5.out.size _) ((HR5.out.keep (Same.of_grown (World.grownBy_alloc w5 _ none) (fun _ _ => by simp))).weaken (fun x hx => by have h1 := hx.1; omega))).mono ?_
  rintro e w6 ⟨rfl, hb⟩
  have hg6 : w5.grownBy w6 none := grown_trans (World.grownBy_alloc w5 _ _) (grown_below hb none)
  have HB6 : Hid (Below w.heap.size w w6) := Lib.hid (HB5.out.grown hg6 (by omega) (fun j e => by cases e))
  have HE6 := Lib.hid (HE5.out.kept hg6 (by simp))
  have HT6 := Lib.hid ((EB.new w5 (.int .i64 k) (.int .i64 n) (.string u) (.string t) (.slice A0 n0 m0) (.slice A1 n1 m1) (.slice A2 n2 m2)).kept (grown_below hb none) (by simp))
  have HR6 := Lib.hid (HR5.out.keep (Same.of_grown hg6 (fun _ _ => by simp)))
  have hz6 := hg6.size
  have e0 := HE6.out.c0
  have r0 := HE6.out.fr 0
  have d0 := HT6.out.c0
  have e1 := HE6.out.c1
  have r1 := HE6.out.fr 1
  have d1 := HT6.out.c1
  have e2 := HE6.out.c2
  have r2 := HE6.out.fr 2
  have d2 := HT6.out.c2
  have e3 := HE6.out.c3
  have r3 := HE6.out.fr 3
  have d3 := HT6.out.c3
  have e4 := HE6.out.c4
  have r4 := HE6.out.fr 4
  have d4 := HT6.out.c4
  have e5 := HE6.out.c5
  have r5 := HE6.out.fr 5
  have d5 := HT6.out.c5
  have e6 := HE6.out.c6
  have r6 := HE6.out.fr 6
  have d6 := HT6.out.c6
  clear hb hg6
  go_wp2_with fail
  exact bodyPost_ret (res_parse rfl rfl rfl (HE6.out.all _ _ _ _ _ _ _)) rfl ⟨k, n, u, t, A0, n0, m0, A1, n1, m1, A2, n2, m2, rfl, (HR6.out.keep (Same.of_grown (set7_grown _ _ _ _ _ _ _ _ _) (fun x hx => by have h1 := hx.1; simp; omega))).weaken (fun x hx => by have h1 := hx.1; omega), HB6.out.grown (set7_grown _ _ _ _ _ _ _ _ _) (by omega) (fun j e => by have : w.heap.size = j := Option.some.inj e; omega)⟩
end Go.Proofs.YtbmicnajedeenaaGreatDoor
