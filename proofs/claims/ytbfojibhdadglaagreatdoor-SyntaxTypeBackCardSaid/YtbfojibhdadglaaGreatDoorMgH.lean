/- Texts put together by program: RLev RTxA RTxB RTxC RTxI. -/
import Derived.Test.YtbfojibhdadglaaGreatDoorMgG
/- The reference's level of an expression. -/
namespace Go.Proofs.YtbfojibhdadglaaGreatDoor
open Go.RowKit

end Go.Proofs.YtbfojibhdadglaaGreatDoor
/- The reference's joined; an expression's text where a level is asked for. -/
namespace Go.Proofs.YtbfojibhdadglaaGreatDoor
open Go.RowKit

end Go.Proofs.YtbfojibhdadglaaGreatDoor
/- The reference's text of an expression where a level is asked for. -/
namespace Go.Proofs.YtbfojibhdadglaaGreatDoor
open Go.RowKit

end Go.Proofs.YtbfojibhdadglaaGreatDoor
/- The reference's text, kind by kind: what serves all kinds. -/
namespace Go.Proofs.YtbfojibhdadglaaGreatDoor
open Go.RowKit

theorem PartsAt.below {B : Nat} {w w' : World} {A : Option Addr} {l : List Ex} (h : PartsAt B w A l) (hb : Below w.heap.size w w') : PartsAt B w' A l := fun h0 => by
  obtain ⟨b, off, e, h1, h2, hc⟩ := h h0
  have k : ∀ o, w'.cell? ⟨b, o, none⟩ = w.cell? ⟨b, o, none⟩ := fun o => Below.cell (p := ⟨b, o, none⟩) hb h2
  refine ⟨b, off, e, h1, Nat.lt_of_lt_of_le h2 hb.size, fun j e hj => ?_⟩
  obtain ⟨k0, n, s, t, A0, n0, c0, A1, n1, c1, A2, n2, c2, hr, d0, d1, d2, d3, d4, d5, d6⟩ := hc j e hj
  exact ⟨k0, n, s, t, A0, n0, c0, A1, n1, c1, A2, n2, c2, hr.keep (Same.of_below hb), (k _).trans d0, (k _).trans d1, (k _).trans d2, (k _).trans d3, (k _).trans d4, (k _).trans d5, (k _).trans d6⟩
theorem ArmsAt.below {B : Nat} {w w' : World} {A : Option Addr} {hs : List (Txt × List Txt)} {bs : List Ex} (h : ArmsAt B w A hs bs) (hb : Below w.heap.size w w') : ArmsAt B w' A hs bs := fun h0 => by
  obtain ⟨b, off, e, h1, h2, hc⟩ := h h0
  have kk : ∀ o, w'.cell? ⟨b, o, none⟩ = w.cell? ⟨b, o, none⟩ := fun o => Below.cell (p := ⟨b, o, none⟩) hb h2
  refine ⟨b, off, e, h1, Nat.lt_of_lt_of_le h2 hb.size, fun j hd e g1 g2 => ?_⟩
  obtain ⟨An, cn, k, n, s, t, A0, n0, c0, A1, n1, c1, A2, n2, c2, H⟩ := hc j hd e g1 g2
  exact ⟨An, cn, k, n, s, t, A0, n0, c0, A1, n1, c1, A2, n2, c2, H.names.keep (Same.of_below hb), H.len, H.rep.keep (Same.of_below hb), (kk _).trans H.d0, (kk _).trans H.d1, (kk _).trans H.d2, (kk _).trans H.d3, (kk _).trans H.d4, (kk _).trans H.d5, (kk _).trans H.d6, (kk _).trans H.d7, (kk _).trans H.d8⟩
theorem PtS.keep {w0 w : World} {b o : Nat} {v : Value} (h : PtS w0 w) (hlt : b < w0.heap.size) (hc : w0.cell? ⟨b, o, none⟩ = some v) : w.cell? ⟨b, o, none⟩ = some v := (Below.cell (p := ⟨b, o, none⟩) (show Below w0.heap.size w0 w from h) hlt).trans hc
theorem PartCells.up {B b o : Nat} {w W1 : World} {e : Ex} {k n : Int} {s t : ByteArray} {A0 : Option Addr} {n0 c0 : Nat} {A1 : Option Addr} {n1 c1 : Nat} {A2 : Option Addr} {n2 c2 : Nat} (h : PartCells B w b o e k n s t A0 n0 c0 A1 n1 c1 A2 n2 c2) (hb : b < w.heap.size) (hB : Below w.heap.size w W1) :
    W1.cell? ⟨b, o, none⟩ = some (.int .i64 k) ∧ W1.cell? ⟨b, o + 1, none⟩ = some (.int .i64 n) ∧ W1.cell? ⟨b, o + 2, none⟩ = some (.string s) ∧ W1.cell? ⟨b, o + 3, none⟩ = some (.string t) ∧ W1.cell? ⟨b, o + 4, none⟩ = some (.slice A0 n0 c0) ∧ W1.cell? ⟨b, o + 5, none⟩ = some (.slice A1 n1 c1) ∧ W1.cell? ⟨b, o + 6, none⟩ = some (.slice A2 n2 c2) := by
  have k : ∀ o, W1.cell? ⟨b, o, none⟩ = w.cell? ⟨b, o, none⟩ := fun o => Below.cell (p := ⟨b, o, none⟩) hB hb
  exact ⟨(k _).trans h.d0, (k _).trans h.d1, (k _).trans h.d2, (k _).trans h.d3, (k _).trans h.d4, (k _).trans h.d5, (k _).trans h.d6⟩
end Go.Proofs.YtbfojibhdadglaaGreatDoor
/- The reference's listed. -/
namespace Go.Proofs.YtbfojibhdadglaaGreatDoor
open Go.RowKit

end Go.Proofs.YtbfojibhdadglaaGreatDoor
