/- Texts put together by program: PgL PgB PgB2. -/
import Derived.Test.YtbmicnajedeenaaGreatDoorMgJ
import Derived.Test.YtbmicnajedeenaaGreatDoorMgG
import Derived.Deep.RegionHeld3
import Derived.Test.YtbmicnajedeenaaGreatDoorMgH
import Derived.Test.YtbmicnajedeenaaGreatDoorMgB
/- A copy of a tree, walked. -/
namespace Go.Proofs.YtbmicnajedeenaaGreatDoor
open Go.RowKit

theorem len_flatten_of7 {cl : List (List Value)} (h : ∀ c ∈ cl, c.length = 7) : cl.flatten.length = cl.length * 7 := by
  induction cl with
  | nil => rfl
  | cons x r ih => rw [List.flatten_cons, List.length_append, ih (fun c hc => h c (by simp [hc])), h x (by simp), List.length_cons]; omega
theorem len_flatten_of9 {cl : List (List Value)} (h : ∀ c ∈ cl, c.length = 9) : cl.flatten.length = cl.length * 9 := by
  induction cl with
  | nil => rfl
  | cons x r ih => rw [List.flatten_cons, List.length_append, ih (fun c hc => h c (by simp [hc])), h x (by simp), List.length_cons]; omega
/-- the cells of a list of trees, copied out of their row -/
theorem cells_of_list {P : Nat → Prop} {w : World} {b off : Nat} {l : List Ex} (h : RepL P w b off l) : ∃ cl : List (List Value), cl.length = l.length ∧ (∀ c ∈ cl, c.length = 7) ∧ (∀ (j : Nat) (x : Ex) (c : List Value), l[j]? = some x → cl[j]? = some c → RepE P w x c) ∧ CellsAt w b off cl.flatten ∧ (∀ u ∈ cl.flatten, u.oneCell' = true) := by
  induction l generalizing off with
  | nil => exact ⟨[], rfl, by simp, by simp, fun i v hi => by simp at hi, by simp⟩
  | cons x r ih =>
    obtain ⟨⟨cs, h7, hc, he⟩, hr⟩ := h
    obtain ⟨cl, g1, g2, g3, g4, g5⟩ := ih hr
    refine ⟨cs :: cl, by simp [g1], fun c hc' => ?_, fun j y c hj hjc => ?_, fun i v hi => ?_, fun u hu => ?_⟩
    · rcases List.mem_cons.1 hc' with rfl | hc'
      · exact h7
      · exact g2 c hc'
    · cases j with
      | zero => simp only [List.getElem?_cons_zero, Option.some.injEq] at hj hjc; subst hj; subst hjc; exact he
      | succ j => exact g3 j y c (by simpa using hj) (by simpa using hjc)
    · rw [List.flatten_cons] at hi
      by_cases hi7 : i < 7
      · rw [List.getElem?_append_left (by omega)] at hi; exact hc i v hi
      · rw [List.getElem?_append_right (by omega), h7] at hi
        have := g4 (i - 7) v hi
        rwa [show off + 7 + (i - 7) = off + i by omega] at this
    · rw [List.flatten_cons, List.mem_append] at hu
      rcases hu with hu | hu
      · obtain ⟨k, n, s, t, A0, n0, c0, A1, n1, c1, A2, n2, c2, rfl⟩ := he.shape
        simp only [List.mem_cons, List.not_mem_nil, or_false] at hu
        rcases hu with rfl | rfl | rfl | rfl | rfl | rfl | rfl <;> rfl
      · exact g5 u hu
/-- what an arm's cells say -/
def ArmR (P : Nat → Prop) (w : World) (o : List UInt8 × List (List UInt8)) (x : Ex) (c : List Value) : Prop :=
  ∃ A cc cs, okS o.1 ∧ (∀ y ∈ o.2, okS y) ∧ o.2.length ≤ cc ∧ cc ≤ maxLen ∧ cs.length = 7 ∧ c = .string (strB o.1) :: .slice A o.2.length cc :: cs ∧ NamesAt P w A o.2 ∧ RepE P w x cs
theorem ArmR.keepC {P : Nat → Prop} {w w' : World} {o : List UInt8 × List (List UInt8)} {x : Ex} {c : List Value} (h : ArmR P w o x c) (hs : KC P w w') : ArmR P w' o x c := by
  obtain ⟨A, cc, cs, h1, h2, h3, h4, h5, h6, h7, h8⟩ := h
  exact ⟨A, cc, cs, h1, h2, h3, h4, h5, h6, h7.keepC hs, h8.keepC hs⟩
theorem cells_of_arms {P : Nat → Prop} {w : World} {b off : Nat} {l : List Ex} {ops : List (List UInt8 × List (List UInt8))} (h : RepA P w b off ops l) : ∃ cl : List (List Value), cl.length = l.length ∧ (∀ c ∈ cl, c.length = 9) ∧ (∀ (j : Nat) (x : Ex) (c : List Value), l[j]? = some x → cl[j]? = some c → ∃ o, ops[j]? = some o ∧ ArmR P w o x c) ∧ CellsAt w b off cl.flatten ∧ (∀ u ∈ cl.flatten, u.oneCell' = true) := by
  induction l generalizing off ops with
  | nil => exact ⟨[], rfl, by simp, by simp, fun i v hi => by simp at hi, by simp⟩
  | cons x r ih =>
    obtain ⟨op, ns, q, A, cc, cs, rfl, h1, h2, h3, h4, h7, hc, hn, he, hr⟩ := h
    obtain ⟨cl, g1, g2, g3, g4, g5⟩ := ih hr
    have h9 : (Value.string (strB op) :: Value.slice A ns.length cc :: cs).length = 9 := by simp [h7]
    refine ⟨(.string (strB op) :: .slice A ns.length cc :: cs) :: cl, by simp [g1], fun c hc' => ?_, fun j y c hj hjc => ?_, fun i v hi => ?_, fun u hu => ?_⟩
    · rcases List.mem_cons.1 hc' with rfl | hc'
      · exact h9
      · exact g2 c hc'
    · cases j with
      | zero => simp only [List.getElem?_cons_zero, Option.some.injEq] at hj hjc; subst hj; subst hjc; exact ⟨(op, ns), rfl, A, cc, cs, h1, h2, h3, h4, h7, rfl, hn, he⟩
      | succ j => obtain ⟨o, ho, ha⟩ := g3 j y c (by simpa using hj) (by simpa using hjc); exact ⟨o, by simpa using ho, ha⟩
    · rw [List.flatten_cons] at hi
      by_cases hi9 : i < 9
      · rw [List.getElem?_append_left (by omega)] at hi; exact hc i v hi
      · rw [List.getElem?_append_right (by omega), h9] at hi
        have := g4 (i - 9) v hi
        rwa [show off + 9 + (i - 9) = off + i by omega] at this
    · rw [List.flatten_cons, List.mem_append] at hu
      rcases hu with hu | hu
      · obtain ⟨k, n, s, t, A0, n0, c0, A1, n1, c1, A2, n2, c2, rfl⟩ := he.shape
        simp only [List.mem_cons, List.not_mem_nil, or_false] at hu
        rcases hu with rfl | rfl | rfl | rfl | rfl | rfl | rfl | rfl | rfl <;> rfl
      · exact g5 u hu
theorem NamesAt.tightP {P : Nat → Prop} {w : World} {A : Option Addr} {L : List (List UInt8)} (h : NamesAt P w A L) : NamesAt (fun x => P x ∧ x < w.heap.size) w A L := fun h0 => by
  obtain ⟨b, off, e, hp, hlt, hc⟩ := h h0
  exact ⟨b, off, e, ⟨hp, hlt⟩, hlt, hc⟩
section
variable {P : Program} {ops : Array Oper} {Q : Exit → Act → World → Prop} {S : World → Prop} {md : Region.Mode}
/-- one operation that only reads, taken first -/
theorem takeG {i : Nat} {oi : Oper} {d : Tmp} {v : Value} {fuel : Nat} {listed : Array Bool} {T : Array Value} {D : List Deferred} {w : World} (hi : ops[i]? = some oi) (hd : oi.dst = some d)
    (hs : Region.noSelect ops = true) (hf : Region.free md ops listed i = true) (hr : (Region.ready md ops listed).contains i = true)
    (hQ : ∀ c a w, Q (.panic c) (a.put oi.dst v) w → Q (.panic c) a w) (hy : YieldsIf P ops S oi v { tmps := T, defers := D }) (hS : S w)
    (h : wpAnyH P md ops Q S fuel (listed.setIfInBounds i true) { tmps := T.setIfInBounds d v, defers := D } w) : wpAnyH P md ops Q S (fuel + 1) listed { tmps := T, defers := D } w :=
  wpAnyH_take hi hs hf hr hQ hy hS (by rw [hd]; exact h)
/-- the one operation that may come up -/
theorem stepG {i : Nat} {oi : Oper} {fuel : Nat} {listed : Array Bool} {a : Act} {w : World} (hr : Region.ready md ops listed = [i]) (hi : ops[i]? = some oi) (hw : Region.wanted oi (yielded ops a.tmps) = true)
    (h : ∀ K : Act → World → Prop, Shut (∀ a w, S w → wpAnyH P md ops Q S fuel (listed.setIfInBounds i true) a w → K a w) → Oper.wp P oi a w K Q) : wpAnyH P md ops Q S (fuel + 1) listed a w :=
  wpAnyH_ready hr (by simp) (AllReadyH.cons hi (fun K hK => by rw [if_pos hw]; exact h K (fun a w hs hx => hK.out a w hs (fun _ => hx))) AllReadyH.nil)
end
theorem RepE.seven'' {P : Nat → Prop} {w : World} {e : Ex} {c : List Value} (h : RepE P w e c) : c.length = 7 := by
  obtain ⟨k, n, s, t, A0, n0, c0, A1, n1, c1, A2, n2, c2, rfl⟩ := h.shape; rfl
/-- a list of trees lies in memory -/
def LB (P : Nat → Prop) (w : World) (A : Option Addr) (l : List Ex) : Prop := l ≠ [] → ∃ b off, A = some ⟨b, off, none⟩ ∧ P b ∧ b < w.heap.size ∧ RepL P w b off l
theorem LB.keepC {P : Nat → Prop} {w w' : World} {A : Option Addr} {l : List Ex} (h : LB P w A l) (hs : KC P w w') : LB P w' A l := fun h0 => by
  obtain ⟨b, off, e, hp, hlt, hr⟩ := h h0
  exact ⟨b, off, e, hp, Nat.lt_of_lt_of_le hlt hs.1, RepL.keepC hs hp hr⟩
theorem LB.weaken {P Q : Nat → Prop} {w : World} {A : Option Addr} {l : List Ex} (h : LB P w A l) (hq : ∀ z, P z → Q z) : LB Q w A l := fun h0 => by
  obtain ⟨b, off, e, hp, hlt, hr⟩ := h h0
  exact ⟨b, off, e, hq _ hp, hlt, RepL.weaken hq hr⟩
theorem LB.tightP {P : Nat → Prop} {w : World} {A : Option Addr} {l : List Ex} (h : LB P w A l) : LB (fun x => P x ∧ x < w.heap.size) w A l := fun h0 => by
  obtain ⟨b, off, e, hp, hlt, hr⟩ := h h0
  exact ⟨b, off, e, ⟨hp, hlt⟩, hlt, RepL.tight hr⟩
theorem EB.set6 {w : World} {g : Nat} {v0 v1 v2 v3 v4 v5 v6 : Value} (h : EB w g v0 v1 v2 v3 v4 v5 v6) (u : Value) : EB (w.setCell ⟨g, 6, none⟩ u) g v0 v1 v2 v3 v4 v5 u := by
  unfold EB at h ⊢; simp [World.setCell, Array.getElem?_modify, h]
theorem EB.set5' {w : World} {g : Nat} {v0 v1 v2 v3 v4 v5 v6 : Value} (h : EB w g v0 v1 v2 v3 v4 v5 v6) (u : Value) : EB (w.setCell ⟨g, 5, none⟩ u) g v0 v1 v2 v3 v4 u v6 := by
  unfold EB at h ⊢; simp [World.setCell, Array.getElem?_modify, h]
theorem EB.set4' {w : World} {g : Nat} {v0 v1 v2 v3 v4 v5 v6 : Value} (h : EB w g v0 v1 v2 v3 v4 v5 v6) (u : Value) : EB (w.setCell ⟨g, 4, none⟩ u) g v0 v1 v2 v3 u v5 v6 := by
  unfold EB at h ⊢; simp [World.setCell, Array.getElem?_modify, h]
theorem cloneN_any {P : Nat → Prop} (A : Option Addr) (n c : Nat) (L : List (List UInt8)) (w : World) (h : NamesAt P w A L) (hn : n = L.length) (hb : n ≤ 1000) :
    Calls Tryz.prog 34 #[.slice A n c] w fun e w2 => ∃ A c, e = .returned (.slice A n c) ∧ NamesAt (fun x => w.heap.size ≤ x) w2 A L ∧ (n ≤ c ∧ c ≤ maxLen) ∧ Below w.heap.size w w2 := by
  refine (cloneS_any A n c (L.map fun x => .string (strB x)) w hb (by rw [List.length_map, hn]; omega) (fun u hu => by obtain ⟨x, _, rfl⟩ := List.mem_map.1 hu; rfl) (fun hA => ?_) (fun h0 => ?_)).mono ?_
  · refine Classical.byContradiction fun h0 => ?_
    obtain ⟨b, off, eA, _⟩ := h (by rintro rfl; exact h0 hn)
    rw [hA] at eA; cases eA
  · obtain ⟨b, off, eA, _, hlt, hc⟩ := h (by rintro rfl; exact h0 hn)
    refine ⟨b, off, eA, fun i v hi => ?_⟩
    rw [List.getElem?_map, Option.map_eq_some_iff] at hi
    obtain ⟨x, hx, rfl⟩ := hi
    exact hc i x hx
  · rintro e w2 ⟨v', rfl, hown, hb2⟩
    obtain ⟨A, c, rfl⟩ := own_slice hown
    obtain ⟨q1, q2⟩ := own_names3 hn hown
    exact ⟨A, c, rfl, q1, q2, hb2⟩
theorem res_clone {tmps : Array Value} {w : World} {g : Nat} {v0 v1 v2 v3 v4 v5 v6 : Value} (h2 : tmps.getD 2 undef = .pointer (some ⟨g, 0, none⟩)) (h : EB w g v0 v1 v2 v3 v4 v5 v6) :
    (results Tryz.f17 tmps).run Tryz.prog w = .ok (.agg #[v0, v1, v2, v3, v4, v5, v6]) w := by
  have c0 := h.c0
  have c1 := h.c1
  have c2 := h.c2
  have c3 := h.c3
  have c4 := h.c4
  have c5 := h.c5
  have c6 := h.c6
  have h2' : tmps[2]?.getD undef = .pointer (some ⟨g, 0, none⟩) := by simpa using h2
  simp [results, Tryz.results17, go_sem, h2', c0, c1, c2, c3, c4, c5, c6]
set_option maxRecDepth 100000 in
set_option maxHeartbeats 8000000 in
theorem clone_any : ∀ e, SmE e → CloneSays e := by
  refine Ex.ind fun e ih hsm => ?_
  intro k n s t A0 n0 c0 A1 n1 c1 A2 n2 c2 w hre
  cases e with
  | mk xk xn xs xt ns l ops bs =>
  obtain ⟨⟨sm1, sm2, sm3, sm4⟩, sml, smb⟩ := hsm.parts
  have HIh : Hid (∀ x ∈ l ++ bs, CloneSays x) := Lib.hid (fun x hx => ih x hx (by rcases List.mem_append.1 hx with h | h; exact sml x h; exact smb x h))
  obtain ⟨An, cn, Al, cl, Aa, ca, e, hf, hn, hl, ha, ho⟩ := hre
  simp only [exCells, List.cons.injEq, Value.int.injEq, Value.string.injEq, Value.slice.injEq, and_true, true_and] at e
  obtain ⟨rfl, rfl, rfl, rfl, ⟨rfl, e4, rfl⟩, ⟨rfl, e5, rfl⟩, ⟨rfl, e6, rfl⟩⟩ := e
  have HLn := Lib.hid e4
  have HE5 := Lib.hid e5
  have HE6 := Lib.hid e6
  have HFit := Lib.hid hf
  have HSm := Lib.hid sm4
  have b4 : n0 ≤ 1000 := by omega
  have b5 : n1 ≤ 1000 := by omega
  have b6 : n2 ≤ 1000 := by omega
  have HOl := Lib.hid ho
  -- copies of the three lists
  have HCS : Hid (∀ w', Below w.heap.size w w' → Calls Tryz.prog 34 #[.slice A0 n0 c0] w' fun e w2 => ∃ A c, e = .returned (.slice A n0 c) ∧ NamesAt (fun x => w'.heap.size ≤ x) w2 A ns ∧ (n0 ≤ c ∧ c ≤ maxLen) ∧ Below w'.heap.size w' w2) := Lib.hid (fun w' hb => by
    refine (cloneS_any A0 n0 c0 (ns.map fun x => .string (strB x)) w' b4 (by rw [List.length_map, e4]; omega) (fun u hu => by obtain ⟨x, _, rfl⟩ := List.mem_map.1 hu; rfl) (fun hA => ?_) (fun h0 => ?_)).mono ?_
    · refine Classical.byContradiction fun h0 => ?_
      obtain ⟨b, off, eA, _⟩ := hn (by rintro rfl; exact h0 e4)
      rw [hA] at eA; cases eA
    · obtain ⟨b, off, eA, _, hlt, hc⟩ := (hn.keep (Same.of_below hb)) (by rintro rfl; exact h0 e4)
      refine ⟨b, off, eA, fun i v hi => ?_⟩
      rw [List.getElem?_map, Option.map_eq_some_iff] at hi
      obtain ⟨x, hx, rfl⟩ := hi
      exact hc i x hx
    · rintro e w2 ⟨v', rfl, hown, hb2⟩
      obtain ⟨A, c, rfl⟩ := own_slice hown
      obtain ⟨q1, q2⟩ := own_names3 e4 hown
      exact ⟨A, c, rfl, q1, q2, hb2⟩)
  have HCX : Hid (∀ w', Below w.heap.size w w' → Calls Tryz.prog 35 #[.slice A1 n1 c1] w' fun e w2 => ∃ A g c cl, e = .returned (.slice A n1 c) ∧ (n1 ≤ c ∧ c ≤ maxLen) ∧ cl.length = n1 ∧ (n1 ≠ 0 → A = some ⟨g, 0, none⟩ ∧ w'.heap.size ≤ g ∧ RowC w2 g 30 7 cl) ∧
      (∀ (j : Nat) (x : Ex) (c : List Value), l[j]? = some x → cl[j]? = some c → RepE (fun z => z < w.heap.size) w2 x c) ∧ Below w'.heap.size w' w2) := Lib.hid (fun w' hb => by
    by_cases h0 : n1 = 0
    · refine (cloneX_any A1 n1 c1 [] w' b5 (by rw [h0]; rfl) (by simp) (fun _ => h0) (fun h => absurd h0 h)).mono ?_
      rintro e w2 ⟨v', rfl, hown, hb2⟩
      obtain ⟨A, g, c, rfl, q1, q2⟩ := own_row (cl := []) (by simp) h0.symm hown
      exact ⟨A, g, c, [], rfl, q1, h0.symm, q2, fun j x c _ h => by simp at h, hb2⟩
    · obtain ⟨b, off, eA, _, hlt, hrl⟩ := hl (by rintro rfl; exact h0 e5)
      obtain ⟨cl, g1, g2, g3, g4, g5⟩ := cells_of_list hrl
      refine (cloneX_any A1 n1 c1 cl.flatten w' b5 (by rw [e5, ← g1]; exact len_flatten_of7 g2) g5 (fun hA => by rw [hA] at eA; cases eA) (fun _ => ⟨b, off, eA, g4.keep (P := fun _ => True) trivial hlt (Same.of_below hb)⟩)).mono ?_
      rintro e w2 ⟨v', rfl, hown, hb2⟩
      obtain ⟨A, g, c, rfl, q1, q2⟩ := own_row g2 (by rw [g1, e5]) hown
      have hb3 := hb.trans (hb2.mono hb.size)
      exact ⟨A, g, c, cl, rfl, q1, by rw [g1, e5], q2, fun j x c hj hc => ((g3 j x c hj hc).tight.weaken (fun _ h => h.2)).keepC (KC.of_same hb3), hb2⟩)
  have HCA : Hid (∀ w', Below w.heap.size w w' → Calls Tryz.prog 36 #[.slice A2 n2 c2] w' fun e w2 => ∃ A g c cl, e = .returned (.slice A n2 c) ∧ (n2 ≤ c ∧ c ≤ maxLen) ∧ cl.length = n2 ∧ (n2 ≠ 0 → A = some ⟨g, 0, none⟩ ∧ w'.heap.size ≤ g ∧ RowC w2 g 83 9 cl) ∧
      (∀ (j : Nat) (x : Ex) (c : List Value), bs[j]? = some x → cl[j]? = some c → ∃ o, ops[j]? = some o ∧ ArmR (fun z => z < w.heap.size) w2 o x c) ∧ Below w'.heap.size w' w2) := Lib.hid (fun w' hb => by
    by_cases h0 : n2 = 0
    · refine (cloneA_any A2 n2 c2 [] w' b6 (by rw [h0]; rfl) (by simp) (fun _ => h0) (fun h => absurd h0 h)).mono ?_
      rintro e w2 ⟨v', rfl, hown, hb2⟩
      obtain ⟨A, g, c, rfl, q1, q2⟩ := own_row (cl := []) (by simp) h0.symm hown
      exact ⟨A, g, c, [], rfl, q1, h0.symm, q2, fun j x c _ h => by simp at h, hb2⟩
    · obtain ⟨b, off, eA, _, hlt, hrl⟩ := ha (by rintro rfl; exact h0 e6)
      obtain ⟨cl, g1, g2, g3, g4, g5⟩ := cells_of_arms hrl
      refine (cloneA_any A2 n2 c2 cl.flatten w' b6 (by rw [e6, ← g1]; exact len_flatten_of9 g2) g5 (fun hA => by rw [hA] at eA; cases eA) (fun _ => ⟨b, off, eA, g4.keep (P := fun _ => True) trivial hlt (Same.of_below hb)⟩)).mono ?_
      rintro e w2 ⟨v', rfl, hown, hb2⟩
      obtain ⟨A, g, c, rfl, q1, q2⟩ := own_row g2 (by rw [g1, e6]) hown
      have hb3 := hb.trans (hb2.mono hb.size)
      refine ⟨A, g, c, cl, rfl, q1, by rw [g1, e6], q2, fun j x c hj hc => ?_, hb2⟩
      obtain ⟨o, ho', A', cc, cs, h1, h2, h3, h4, h5, h6, h7, h8⟩ := g3 j x c hj hc
      exact ⟨o, ho', A', cc, cs, h1, h2, h3, h4, h5, h6, h7.tight2.keepC (KC.of_same hb3), (h8.tight.weaken (fun _ h => h.2)).keepC (KC.of_same hb3)⟩)
  obtain ⟨S, hS⟩ : ∃ S, S = strB xs := ⟨_, rfl⟩
  obtain ⟨T, hT⟩ : ∃ S, S = strB xt := ⟨_, rfl⟩
  have HSx := Lib.hid hS
  have HTx := Lib.hid hT
  rw [← hS, ← hT]
  clear hn hl ha hf e4 e5 e6 sml smb sm1 sm2 sm3 sm4 hsm ih hS hT ho
  have HB1 := Lib.hid ((Below.refl w.heap.size w).alloc (Nat.le_refl _) (.cells #[.int .i64 k, .int .i64 n, .string S, .string T, .slice A0 n0 c0, .slice A1 n1 c1, .slice A2 n2 c2] 30))
  go_enter Tryz.func17, Tryz.ntmps17
  go_wp2_with fail
  obtain ⟨W1, hW1⟩ : ∃ W1, (w.alloc (.cells #[.int .i64 k, .int .i64 n, .string S, .string T, .slice A0 n0 c0, .slice A1 n1 c1, .slice A2 n2 c2] 30)).alloc (.cells #[.int .i64 0, .int .i64 0, .string ⟨#[]⟩, .string ⟨#[]⟩, .slice none 0 0, .slice none 0 0, .slice none 0 0] 30) = W1 := ⟨_, rfl⟩
  have HB1 : Hid (Below w.heap.size w W1) := Lib.hid (by rw [← hW1]; exact ((Below.refl _ _).alloc (Nat.le_refl _) _).alloc (by simp) _)
  have HE1 : Hid (EB W1 w.heap.size (.int .i64 k) (.int .i64 n) (.string S) (.string T) (.slice A0 n0 c0) (.slice A1 n1 c1) (.slice A2 n2 c2)) := Lib.hid (by rw [← hW1]; exact (EB.new w _ _ _ _ _ _ _).kept (World.grownBy_alloc _ _ none) (by simp))
  have HQ1 : Hid (EB W1 (w.heap.size + 1) (.int .i64 0) (.int .i64 0) (.string ⟨#[]⟩) (.string ⟨#[]⟩) (.slice none 0 0) (.slice none 0 0) (.slice none 0 0)) := Lib.hid (by
    rw [← hW1]
    have := EB.new (w.alloc (.cells #[.int .i64 k, .int .i64 n, .string S, .string T, .slice A0 n0 c0, .slice A1 n1 c1, .slice A2 n2 c2] 30)) (.int .i64 0) (.int .i64 0) (.string ⟨#[]⟩) (.string ⟨#[]⟩) (.slice none 0 0) (.slice none 0 0) (.slice none 0 0)
    rwa [World.size_alloc] at this)
  have hz1 : w.heap.size + 1 < W1.heap.size := HQ1.out.lt
  rw [hW1]
  clear hW1
  refine (HCS.out _ HB1.out).mono ?_
  rintro e w2 ⟨A4, c4, rfl, hnm, hc4, hb⟩
  have HE2 := Lib.hid (HE1.out.kept (grown_below hb none) (by simp))
  have HQ2 := Lib.hid (HQ1.out.kept (grown_below hb none) (by simp))
  have HB2 := Lib.hid (HB1.out.trans (hb.mono HB1.out.size))
  have HN2 := Lib.hid (hnm.weaken (Q := fun x => w.heap.size + 2 ≤ x) (fun x hx => by omega))
  have HC4 := Lib.hid hc4
  have hz2 := hb.size
  clear hb hnm hc4
  have e0 := HE2.out.c0
  have r0 := HE2.out.fr 0
  have e1 := HE2.out.c1
  have r1 := HE2.out.fr 1
  have e2 := HE2.out.c2
  have r2 := HE2.out.fr 2
  have e3 := HE2.out.c3
  have r3 := HE2.out.fr 3
  have e4 := HE2.out.c4
  have r4 := HE2.out.fr 4
  have e5 := HE2.out.c5
  have r5 := HE2.out.fr 5
  have e6 := HE2.out.c6
  have r6 := HE2.out.fr 6
  go_wp2_with fail
  have hs4 := grown_set w2 ⟨w.heap.size, 4, none⟩ (.slice A4 n0 c4)
  have HE3 := Lib.hid (HE2.out.set4' (.slice A4 n0 c4))
  have HQ3 := Lib.hid (HQ2.out.kept hs4 (by simp))
  have HB3 := Lib.hid (HB2.out.grown hs4 HB2.out.size (fun j e => Nat.le_of_eq (Option.some.inj e)))
  have HN3 := Lib.hid (HN2.out.keepC (KC.of_grown hs4 (fun x hx e => by have : x = w.heap.size := Option.some.inj e; omega)))
  have hz3 := hs4.size
  obtain ⟨w3, hw3⟩ : ∃ w3, w2.setCell ⟨w.heap.size, 4, none⟩ (.slice A4 n0 c4) = w3 := ⟨_, rfl⟩
  rw [hw3] at HE3 HQ3 HB3 HN3 hz3 ⊢
  clear hw3 hs4 e0 r0 e1 r1 e2 r2 e3 r3 e4 r4 e5 r5 e6 r6
  refine (HCX.out _ HB3.out).mono ?_
  rintro e w4 ⟨A5, g5, c5, cl5, rfl, hc5, hcl5, hrow, hreps, hb⟩
  have HE4 := Lib.hid (HE3.out.kept (grown_below hb none) (by simp))
  have HQ4 := Lib.hid (HQ3.out.kept (grown_below hb none) (by simp))
  have HB4 := Lib.hid (HB3.out.trans (hb.mono HB3.out.size))
  have HN4 := Lib.hid ((NamesAt.tightP HN3.out).keepC (KC.of_same hb))
  have hz4 := hb.size
  clear hb
  have e0 := HE4.out.c0
  have r0 := HE4.out.fr 0
  have e1 := HE4.out.c1
  have r1 := HE4.out.fr 1
  have e2 := HE4.out.c2
  have r2 := HE4.out.fr 2
  have e3 := HE4.out.c3
  have r3 := HE4.out.fr 3
  have e4 := HE4.out.c4
  have r4 := HE4.out.fr 4
  have e5 := HE4.out.c5
  have r5 := HE4.out.fr 5
  have e6 := HE4.out.c6
  have r6 := HE4.out.fr 6
  go_wp2_with fail
  have hs5 := grown_set w4 ⟨w.heap.size, 5, none⟩ (.slice A5 n1 c5)
  have HE5' := Lib.hid (HE4.out.set5' (.slice A5 n1 c5))
  have HQ5 := Lib.hid (HQ4.out.kept hs5 (by simp))
  have HB5 := Lib.hid (HB4.out.grown hs5 HB4.out.size (fun j e => Nat.le_of_eq (Option.some.inj e)))
  have hg5 : n1 ≠ 0 → w3.heap.size ≤ g5 := fun h => (hrow h).2.1
  have HN5 := Lib.hid ((HN4.out.weaken (Q := fun x => w.heap.size + 2 ≤ x ∧ (n1 ≠ 0 → x ≠ g5)) (fun x hx => ⟨hx.1, fun h => by have := hg5 h; omega⟩)).keepC (KC.of_grown hs5 (fun x hx e => by have : x = w.heap.size := Option.some.inj e; have := hx.1; omega)))
  have HRow := Lib.hid hrow
  have HRep := Lib.hid hreps
  have HC5 := Lib.hid hc5
  have HL5 : Hid (cl5.length = n1 ∧ (n1 ≠ 0 → RowC (w4.setCell ⟨w.heap.size, 5, none⟩ (.slice A5 n1 c5)) g5 30 7 cl5) ∧ (∀ (j : Nat) (x : Ex) (c : List Value), l[j]? = some x → cl5[j]? = some c → (j < 0 → RepE (fun z => w.heap.size + 2 ≤ z ∧ z ≠ g5) (w4.setCell ⟨w.heap.size, 5, none⟩ (.slice A5 n1 c5)) x c) ∧ (0 ≤ j → RepE (fun z => z < w.heap.size) (w4.setCell ⟨w.heap.size, 5, none⟩ (.slice A5 n1 c5)) x c))) :=
    Lib.hid ⟨hcl5, fun h => (hrow h).2.2.kept hs5 (by have := (hrow h).2.1; simp; omega), fun j x c hj hc => ⟨fun h => by omega, fun _ => (hreps j x c hj hc).keepC (KC.of_grown hs5 (fun z hz e => by have : z = w.heap.size := Option.some.inj e; omega))⟩⟩
  clear hreps hcl5 hc5 e0 r0 e1 r1 e2 r2 e3 r3 e4 r4 e5 r5 e6 r6 hs5 hrow
  go_loopw [18] (fun i wr => ∃ (kk : Nat) (cl : List (List Value)), kk ≤ n1 ∧ i = .int .i64 (kk : Int) ∧ Hid (cl.length = n1 ∧ (n1 ≠ 0 → RowC wr g5 30 7 cl) ∧ (∀ (j : Nat) (x : Ex) (c : List Value), l[j]? = some x → cl[j]? = some c → (j < kk → RepE (fun z => w.heap.size + 2 ≤ z ∧ z ≠ g5) wr x c) ∧ (kk ≤ j → RepE (fun z => z < w.heap.size) wr x c))) ∧
    Hid (EB wr w.heap.size (.int .i64 k) (.int .i64 n) (.string S) (.string T) (.slice A4 n0 c4) (.slice A5 n1 c5) (.slice A2 n2 c2)) ∧ Hid (EB wr (w.heap.size + 1) (.int .i64 0) (.int .i64 0) (.string ⟨#[]⟩) (.string ⟨#[]⟩) (.slice none 0 0) (.slice none 0 0) (.slice none 0 0)) ∧ Hid (Below w.heap.size w wr) ∧ Hid (NamesAt (fun x => w.heap.size + 2 ≤ x ∧ (n1 ≠ 0 → x ≠ g5)) wr A4 ns)) (fun i _ => n1 - (intOf i).toNat)
  case atStart => exact ⟨0, cl5, Nat.zero_le _, rfl, HL5, HE5', HQ5, HB5, HN5⟩
  case round =>
    obtain ⟨kk, cl, hkk, rfl, hL, hE, hQ, hB, hN⟩ := hrel
    have i0 : (0 : Int) ≤ (kk : Int) := by omega
    have e5 := hE.out.c5
    by_cases hkn : kk < n1
    · have hn1 : n1 ≠ 0 := by omega
      obtain ⟨rfl, hgw, _⟩ := HRow.out hn1
      obtain ⟨hcl, hRC, hRp⟩ := hL.out
      have hkl : kk < l.length := by rw [← HE5.out]; exact hkn
      have hkc : kk < cl.length := by rw [hcl]; exact hkn
      obtain ⟨x, hx⟩ : ∃ x, x = l[kk] := ⟨_, rfl⟩
      have HXm : Hid (l[kk]? = some x) := Lib.hid (by rw [hx]; exact List.getElem?_eq_getElem hkl)
      have hrp := (hRp kk x _ HXm.out (List.getElem?_eq_getElem hkc)).2 (Nat.le_refl _)
      have hcc : cl[kk]? = some cl[kk] := List.getElem?_eq_getElem hkc
      obtain ⟨xk, xn', xs', xt', X0, p0, q0, X1, p1, q1, X2, p2, q2, hsh⟩ := hrp.shape
      rw [hsh] at hrp hcc
      have HRC := Lib.hid (hRC hn1)
      have d0 := HRC.out.cell hcc (i := 0) rfl
      have d1 := HRC.out.cell hcc (i := 1) rfl
      have d2 := HRC.out.cell hcc (i := 2) rfl
      have d3 := HRC.out.cell hcc (i := 3) rfl
      have d4 := HRC.out.cell hcc (i := 4) rfl
      have d5 := HRC.out.cell hcc (i := 5) rfl
      have d6 := HRC.out.cell hcc (i := 6) rfl
      rw [Nat.add_zero] at d0
      have i1 : (kk : Int) < (n1 : Int) := by omega
      have HRp := Lib.hid hRp
      have HRe := Lib.hid hrp
      have HCl := Lib.hid hcl
      have HCC := Lib.hid hcc
      clear hRp hrp hcl hx hRC hL hcc hsh hkl hkc
      go_wp2_with fail
      obtain ⟨X, hX⟩ : ∃ X, wr.alloc (.cells #[.int .i64 xk, .int .i64 xn', .string xs', .string xt', .slice X0 p0 q0, .slice X1 p1 q1, .slice X2 p2 q2] 30) = X := ⟨_, rfl⟩
      have HGX : Hid (wr.grownBy X none) := Lib.hid (by rw [← hX]; exact World.grownBy_alloc _ _ _)
      have HPX : Hid (EB X wr.heap.size (.int .i64 xk) (.int .i64 xn') (.string xs') (.string xt') (.slice X0 p0 q0) (.slice X1 p1 q1) (.slice X2 p2 q2)) := Lib.hid (by rw [← hX]; exact EB.new _ _ _ _ _ _ _ _)
      have HEX := Lib.hid (hE.out.kept HGX.out (by simp))
      have HBX : Hid (Below wr.heap.size wr X) := Lib.hid (by rw [← hX]; exact (Below.refl _ _).alloc (Nat.le_refl _) _)
      rw [hX]
      clear hX d0 d1 d2 d3 d4 d5 d6 e5
      have HAll : Hid (∀ w', EB w' w.heap.size (.int .i64 k) (.int .i64 n) (.string S) (.string T) (.slice A4 n0 c4) (.slice (some ⟨g5, 0, none⟩) n1 c5) (.slice A2 n2 c2) → EB w' wr.heap.size (.int .i64 xk) (.int .i64 xn') (.string xs') (.string xt') (.slice X0 p0 q0) (.slice X1 p1 q1) (.slice X2 p2 q2) → w'.cell? ⟨w.heap.size, 5, none⟩ = some (.slice (some ⟨g5, 0, none⟩) n1 c5) ∧ w'.cell? ⟨wr.heap.size, 0, none⟩ = some (.int .i64 xk) ∧ w'.cell? ⟨wr.heap.size, 1, none⟩ = some (.int .i64 xn') ∧ w'.cell? ⟨wr.heap.size, 2, none⟩ = some (.string xs') ∧ w'.cell? ⟨wr.heap.size, 3, none⟩ = some (.string xt') ∧ w'.cell? ⟨wr.heap.size, 4, none⟩ = some (.slice X0 p0 q0) ∧ w'.cell? ⟨wr.heap.size, 5, none⟩ = some (.slice X1 p1 q1) ∧ w'.cell? ⟨wr.heap.size, 6, none⟩ = some (.slice X2 p2 q2)) := Lib.hid (fun w' h1 h2 => ⟨h1.c5, h2.c0, h2.c1, h2.c2, h2.c3, h2.c4, h2.c5, h2.c6⟩)
      have hgd : X.grownBy X.drew none := grown_below (PtS.drew (Below.refl _ _)) none
      refine wp_region_held_drew (S := fun w' => w'.cell? ⟨w.heap.size, 5, none⟩ = some (.slice (some ⟨g5, 0, none⟩) n1 c5) ∧ w'.cell? ⟨wr.heap.size, 0, none⟩ = some (.int .i64 xk) ∧ w'.cell? ⟨wr.heap.size, 1, none⟩ = some (.int .i64 xn') ∧ w'.cell? ⟨wr.heap.size, 2, none⟩ = some (.string xs') ∧ w'.cell? ⟨wr.heap.size, 3, none⟩ = some (.string xt') ∧ w'.cell? ⟨wr.heap.size, 4, none⟩ = some (.slice X0 p0 q0) ∧ w'.cell? ⟨wr.heap.size, 5, none⟩ = some (.slice X1 p1 q1) ∧ w'.cell? ⟨wr.heap.size, 6, none⟩ = some (.slice X2 p2 q2)) (by kernel_rfl) (HAll.out _ (HEX.out.kept hgd (by simp)) (HPX.out.kept hgd (by simp))) (fun hHeld => ?_)
      refine takeG (i := 0) (d := 23) (v := (.pointer (some ⟨w.heap.size, 5, none⟩))) rfl rfl (by kernel_rfl) (by kernel_rfl) (by kernel_rfl) (fun _ _ _ h => h) (Or.inl ⟨by kernel_rfl, fun w hSw => (by (try dsimp only at hSw); go_simp)⟩) hHeld ?_
      refine takeG (i := 1) (d := 24) (v := (.slice (some ⟨g5, 0, none⟩) n1 c5)) rfl rfl (by kernel_rfl) (by kernel_rfl) (by kernel_rfl) (fun _ _ _ h => h) (Or.inl ⟨by kernel_rfl, fun w hSw => (by (try dsimp only at hSw); go_simp)⟩) hHeld ?_
      refine takeG (i := 2) (d := 25) (v := (.int .i64 (kk : Int))) rfl rfl (by kernel_rfl) (by kernel_rfl) (by kernel_rfl) (fun _ _ _ h => h) (Or.inl ⟨by kernel_rfl, fun w hSw => (by (try dsimp only at hSw); go_simp)⟩) hHeld ?_
      refine takeG (i := 3) (d := 26) (v := (.agg #[.int .i64 xk, .int .i64 xn', .string xs', .string xt', .slice X0 p0 q0, .slice X1 p1 q1, .slice X2 p2 q2])) rfl rfl (by kernel_rfl) (by kernel_rfl) (by kernel_rfl) (fun _ _ _ h => h) (Or.inl ⟨by kernel_rfl, fun w hSw => (by (try dsimp only at hSw); go_simp)⟩) hHeld ?_
      simp only [List.setIfInBounds_toArray, List.set_cons_succ, List.set_cons_zero]
      refine stepG (i := 4) (by kernel_rfl) rfl (by kernel_rfl) (fun K hK => ?_)
      go_simp
      have hwX : Below wr.heap.size wr X.drew := HBX.out.trans (Below.mono (PtS.drew (Below.refl X.heap.size X)) HBX.out.size)
      refine (HIh.out x (List.mem_append_left _ (List.mem_of_getElem? HXm.out)) _ _ _ _ _ _ _ _ _ _ _ _ _ X.drew ((HRe.out.keepC (KC.of_same hwX)).weaken (fun _ _ => trivial))).mono ?_
      rintro e w2 ⟨k', n', s', t', A0', n0', c0', A1', n1', c1', A2', n2', c2', rfl, hr, hb⟩
      have hgr : wr.heap.size ≤ X.drew.heap.size := hwX.size
      have hw2 : Below wr.heap.size wr w2 := hwX.trans (hb.mono hgr)
      have hE2 := hE.out.kept (grown_below hw2 none) (by simp)
      have hP2 := (HPX.out.kept hgd (by simp)).kept (grown_below hb none) (by simp)
      have hH2 := HAll.out _ hE2 hP2
      have HR2 := HRC.out.kept (grown_below hw2 none) (by simp)
      have hgl : g5 < wr.heap.size := HRC.out.lt
      have hkc : kk < cl.length := by rw [HCl.out]; exact hkn
      have v0 := HR2.cell HCC.out (i := 0) rfl
      have s0 := HR2.fr (kk * 7 + 0)
      have v1 := HR2.cell HCC.out (i := 1) rfl
      have s1 := HR2.fr (kk * 7 + 1)
      have v2 := HR2.cell HCC.out (i := 2) rfl
      have s2 := HR2.fr (kk * 7 + 2)
      have v3 := HR2.cell HCC.out (i := 3) rfl
      have s3 := HR2.fr (kk * 7 + 3)
      have v4 := HR2.cell HCC.out (i := 4) rfl
      have s4 := HR2.fr (kk * 7 + 4)
      have v5 := HR2.cell HCC.out (i := 5) rfl
      have s5 := HR2.fr (kk * 7 + 5)
      have v6 := HR2.cell HCC.out (i := 6) rfl
      have s6 := HR2.fr (kk * 7 + 6)
      rw [Nat.add_zero] at v0 s0
      refine hK.out _ _ hH2 ?_
      clear hK K
      refine stepG (i := 5) (by kernel_rfl) rfl (by kernel_rfl) (fun K hK => ?_)
      go_simp
      refine hK.out _ _ hH2 ?_
      clear hK K
      refine stepG (i := 6) (by kernel_rfl) rfl (by kernel_rfl) (fun K hK => ?_)
      go_simp
      show K _ (put7 w2 g5 kk (.int .i64 k') (.int .i64 n') (.string s') (.string t') (.slice A0' n0' c0') (.slice A1' n1' c1') (.slice A2' n2' c2'))
      have hset := put7_grown w2 g5 kk (.int .i64 k') (.int .i64 n') (.string s') (.string t') (.slice A0' n0' c0') (.slice A1' n1' c1') (.slice A2' n2' c2')
      have hRf := HR2.put7 hkc (.int .i64 k') (.int .i64 n') (.string s') (.string t') (.slice A0' n0' c0') (.slice A1' n1' c1') (.slice A2' n2' c2')
      have hgz : w.heap.size + 1 < g5 := by omega
      have hEf := hE2.kept hset (by simp; omega)
      have hHf := HAll.out _ hEf (hP2.kept hset (by simp; omega))
      have hQf := (hQ.out.kept (grown_below hw2 none) (by simp)).kept hset (by simp; omega)
      have hB2 := hB.out.trans (hw2.mono hB.out.size)
      have hBf := hB2.grown hset hB2.size (fun j e => by have := Option.some.inj e; omega)
      have hNf := (hN.out.keepC (KC.of_same hw2)).keepC (KC.of_grown hset (fun z hz e => hz.2 hn1 (Option.some.inj e)))
      have hLf : (cl.set kk [.int .i64 k', .int .i64 n', .string s', .string t', .slice A0' n0' c0', .slice A1' n1' c1', .slice A2' n2' c2']).length = n1 ∧ (n1 ≠ 0 → RowC (put7 w2 g5 kk (.int .i64 k') (.int .i64 n') (.string s') (.string t') (.slice A0' n0' c0') (.slice A1' n1' c1') (.slice A2' n2' c2')) g5 30 7 (cl.set kk [.int .i64 k', .int .i64 n', .string s', .string t', .slice A0' n0' c0', .slice A1' n1' c1', .slice A2' n2' c2'])) ∧
          (∀ (j : Nat) (x : Ex) (c : List Value), l[j]? = some x → (cl.set kk [.int .i64 k', .int .i64 n', .string s', .string t', .slice A0' n0' c0', .slice A1' n1' c1', .slice A2' n2' c2'])[j]? = some c → (j < kk + 1 → RepE (fun z => w.heap.size + 2 ≤ z ∧ z ≠ g5) (put7 w2 g5 kk (.int .i64 k') (.int .i64 n') (.string s') (.string t') (.slice A0' n0' c0') (.slice A1' n1' c1') (.slice A2' n2' c2')) x c) ∧ (kk + 1 ≤ j → RepE (fun z => z < w.heap.size) (put7 w2 g5 kk (.int .i64 k') (.int .i64 n') (.string s') (.string t') (.slice A0' n0' c0') (.slice A1' n1' c1') (.slice A2' n2' c2')) x c)) := by
        refine ⟨by rw [List.length_set, HCl.out], fun _ => hRf, fun j y c hj hc => ?_⟩
        rw [List.getElem?_set] at hc
        by_cases e : kk = j
        · subst e
          rw [if_pos rfl, if_pos hkc] at hc
          obtain rfl := Option.some.inj hc
          obtain rfl : y = x := Option.some.inj (hj.symm.trans HXm.out)
          exact ⟨fun _ => (hr.weaken (Q := fun z => w.heap.size + 2 ≤ z ∧ z ≠ g5) (fun z hz => ⟨by omega, by omega⟩)).keepC (KC.of_grown hset (fun z hz e => hz.2 (Option.some.inj e))), fun h => by omega⟩
        · rw [if_neg e] at hc
          obtain ⟨r1, r2⟩ := HRp.out j y c hj hc
          exact ⟨fun h => ((r1 (by omega)).keepC (KC.of_same hw2)).keepC (KC.of_grown hset (fun z hz e => hz.2 (Option.some.inj e))), fun h => ((r2 (by omega)).keepC (KC.of_same hw2)).keepC (KC.of_grown hset (fun z hz e => by have := Option.some.inj e; omega))⟩
      have HLf := Lib.hid hLf
      have HEf := Lib.hid hEf
      have HQf := Lib.hid hQf
      have HBf := Lib.hid hBf
      have HNf := Lib.hid hNf
      clear hLf hEf hQf hBf hNf hset hRf hB2
      refine hK.out _ _ hHf ?_
      obtain ⟨Wf, hWf⟩ : ∃ Wf, put7 w2 g5 kk (.int .i64 k') (.int .i64 n') (.string s') (.string t') (.slice A0' n0' c0') (.slice A1' n1' c1') (.slice A2' n2' c2') = Wf := ⟨_, rfl⟩
      rw [hWf] at HLf HEf HQf HBf HNf ⊢
      clear hWf hHf hK K hH2 hHeld hE2 hP2 HR2 v0 v1 v2 v3 v4 v5 v6 s0 s1 s2 s3 s4 s5 s6 hr hb hw2 HAll hwX hgd
      refine wpAnyH_done (by kernel_rfl) ?_ _
      go_wp2_with fail
      go_roundw
      case rel => exact ⟨kk + 1, _, by omega, by go_num, HLf, HEf, HQf, HBf, HNf⟩
      case measure => simp [intOf]; omega
    · obtain rfl : kk = n1 := by omega
      obtain ⟨hcl, hRC, hRp⟩ := hL.out
      have HLB : Hid (LB (fun z => w.heap.size + 2 ≤ z) wr A5 l) := Lib.hid (fun h0 => by
        have hn1 : kk ≠ 0 := fun h => h0 (List.length_eq_zero_iff.1 (by rw [← HE5.out, h]))
        obtain ⟨hA, hgw, _⟩ := HRow.out hn1
        refine ⟨g5, 0, hA, by show w.heap.size + 2 ≤ g5; omega, (hRC hn1).lt, RepL.of fun j y hj => ?_⟩
        have hjl := (List.getElem?_eq_some_iff.1 hj).1
        have hjc : j < cl.length := by rw [hcl, HE5.out]; exact hjl
        have hr := (hRp j y _ hj (List.getElem?_eq_getElem hjc)).1 (by have := HE5.out; omega)
        exact ⟨_, RepE.seven'' hr, fun i v hi => by rw [Nat.zero_add]; exact (hRC hn1).cell (List.getElem?_eq_getElem hjc) hi, hr.weaken (fun z hz => hz.1)⟩)
      have HNx := Lib.hid (hN.out.weaken (Q := fun z => w.heap.size + 2 ≤ z) (fun z hz => hz.1))
      have hzr := hB.out.size
      clear hcl hRC hRp hL hN HL5 HRow HRep e5
      have e0 := hE.out.c0
      have r0 := hE.out.fr 0
      have e1 := hE.out.c1
      have r1 := hE.out.fr 1
      have e2 := hE.out.c2
      have r2 := hE.out.fr 2
      have e3 := hE.out.c3
      have r3 := hE.out.fr 3
      have e4 := hE.out.c4
      have r4 := hE.out.fr 4
      have e5 := hE.out.c5
      have r5 := hE.out.fr 5
      have e6 := hE.out.c6
      have r6 := hE.out.fr 6
      go_wp2_with fail
      refine (HCA.out _ hB.out).mono ?_
      rintro e w6 ⟨A6, g6, c6, cl6, rfl, hc6, hcl6, hrow6, hreps6, hb⟩
      have HE6' := Lib.hid (hE.out.kept (grown_below hb none) (by simp))
      have HQ6 := Lib.hid (hQ.out.kept (grown_below hb none) (by simp))
      have HB6 := Lib.hid (hB.out.trans (hb.mono hB.out.size))
      have HN6 := Lib.hid ((NamesAt.tightP HNx.out).keepC (KC.of_same hb))
      have HL6 := Lib.hid ((LB.tightP HLB.out).keepC (KC.of_same hb))
      clear hb e0 r0 e1 r1 e2 r2 e3 r3 e4 r4 e5 r5 e6 r6
      have e0 := HE6'.out.c0
      have r0 := HE6'.out.fr 0
      have e1 := HE6'.out.c1
      have r1 := HE6'.out.fr 1
      have e2 := HE6'.out.c2
      have r2 := HE6'.out.fr 2
      have e3 := HE6'.out.c3
      have r3 := HE6'.out.fr 3
      have e4 := HE6'.out.c4
      have r4 := HE6'.out.fr 4
      have e5 := HE6'.out.c5
      have r5 := HE6'.out.fr 5
      have e6 := HE6'.out.c6
      have r6 := HE6'.out.fr 6
      go_wp2_with fail
      have hs6 := grown_set w6 ⟨w.heap.size, 6, none⟩ (.slice A6 n2 c6)
      have hq6 : ∀ z, w.heap.size + 2 ≤ z → some z ≠ some w.heap.size := fun z hz e => by have := Option.some.inj e; omega
      have hg6 : n2 ≠ 0 → wr.heap.size ≤ g6 := fun h => (hrow6 h).2.1
      have hwz : w.heap.size + 1 < wr.heap.size := hQ.out.lt
      have HE7 := Lib.hid (HE6'.out.set6 (.slice A6 n2 c6))
      have HQ7 := Lib.hid (HQ6.out.kept hs6 (by simp))
      have HB7 := Lib.hid (HB6.out.grown hs6 HB6.out.size (fun j e => Nat.le_of_eq (Option.some.inj e)))
      have HN7 := Lib.hid ((HN6.out.weaken (Q := fun x => w.heap.size + 2 ≤ x ∧ (n2 ≠ 0 → x ≠ g6)) (fun x hx => ⟨hx.1, fun h => by have := hg6 h; omega⟩)).keepC (KC.of_grown hs6 (fun x hx => hq6 x hx.1)))
      have HL7 := Lib.hid ((HL6.out.weaken (Q := fun x => w.heap.size + 2 ≤ x ∧ (n2 ≠ 0 → x ≠ g6)) (fun x hx => ⟨hx.1, fun h => by have := hg6 h; omega⟩)).keepC (KC.of_grown hs6 (fun x hx => hq6 x hx.1)))
      have HRow6 := Lib.hid hrow6
      have HC6 := Lib.hid hc6
      have HM6 : Hid (cl6.length = n2 ∧ (n2 ≠ 0 → RowC (w6.setCell ⟨w.heap.size, 6, none⟩ (.slice A6 n2 c6)) g6 83 9 cl6) ∧ (∀ (j : Nat) (x : Ex) (c : List Value), bs[j]? = some x → cl6[j]? = some c → (j < 0 → ∃ o, ops[j]? = some o ∧ ArmR (fun z => w.heap.size + 2 ≤ z ∧ z ≠ g6) (w6.setCell ⟨w.heap.size, 6, none⟩ (.slice A6 n2 c6)) o x c) ∧ (0 ≤ j → ∃ o, ops[j]? = some o ∧ ArmR (fun z => z < w.heap.size) (w6.setCell ⟨w.heap.size, 6, none⟩ (.slice A6 n2 c6)) o x c))) :=
        Lib.hid ⟨hcl6, fun h => (hrow6 h).2.2.kept hs6 (by have := hg6 h; simp; omega), fun j x c hj hc => ⟨fun h => by omega, fun _ => by
          obtain ⟨o, ho, ha⟩ := hreps6 j x c hj hc
          exact ⟨o, ho, ha.keepC (KC.of_grown hs6 (fun z hz e => by have : z = w.heap.size := Option.some.inj e; omega))⟩⟩⟩
      clear hreps6 hcl6 hc6 e0 r0 e1 r1 e2 r2 e3 r3 e4 r4 e5 r5 e6 r6 hs6 hrow6
      go_loopw [37] (fun i wr => ∃ (jj : Nat) (cl : List (List Value)), jj ≤ n2 ∧ i = .int .i64 (jj : Int) ∧ Hid (cl.length = n2 ∧ (n2 ≠ 0 → RowC wr g6 83 9 cl) ∧ (∀ (j : Nat) (x : Ex) (c : List Value), bs[j]? = some x → cl[j]? = some c → (j < jj → ∃ o, ops[j]? = some o ∧ ArmR (fun z => w.heap.size + 2 ≤ z ∧ z ≠ g6) wr o x c) ∧ (jj ≤ j → ∃ o, ops[j]? = some o ∧ ArmR (fun z => z < w.heap.size) wr o x c))) ∧
        Hid (EB wr w.heap.size (.int .i64 k) (.int .i64 n) (.string S) (.string T) (.slice A4 n0 c4) (.slice A5 kk c5) (.slice A6 n2 c6)) ∧ Hid (EB wr (w.heap.size + 1) (.int .i64 0) (.int .i64 0) (.string ⟨#[]⟩) (.string ⟨#[]⟩) (.slice none 0 0) (.slice none 0 0) (.slice none 0 0)) ∧ Hid (Below w.heap.size w wr) ∧ Hid (NamesAt (fun x => w.heap.size + 2 ≤ x ∧ (n2 ≠ 0 → x ≠ g6)) wr A4 ns) ∧ Hid (LB (fun x => w.heap.size + 2 ≤ x ∧ (n2 ≠ 0 → x ≠ g6)) wr A5 l)) (fun i _ => n2 - (intOf i).toNat)
      case atStart => exact ⟨0, cl6, Nat.zero_le _, rfl, HM6, HE7, HQ7, HB7, HN7, HL7⟩
      case round =>
        clear hE hQ hB
        obtain ⟨jj, cl, hjj, rfl, hM, hE, hQ, hB, hN, hL⟩ := hrel
        have j0 : (0 : Int) ≤ (jj : Int) := by omega
        have e6 := hE.out.c6
        by_cases hjn : jj < n2
        · have hn2 : n2 ≠ 0 := by omega
          obtain ⟨rfl, hgw, _⟩ := HRow6.out hn2
          obtain ⟨hcl, hRC, hRp⟩ := hM.out
          have hjl : jj < bs.length := by rw [← HE6.out]; exact hjn
          have hjc : jj < cl.length := by rw [hcl]; exact hjn
          obtain ⟨x, hx⟩ : ∃ x, x = bs[jj] := ⟨_, rfl⟩
          have HXm : Hid (bs[jj]? = some x) := Lib.hid (by rw [hx]; exact List.getElem?_eq_getElem hjl)
          obtain ⟨o, hoj, F, fc, f7, h1, h2, h3, h4, h5, h6, h7, h8⟩ := (hRp jj x _ HXm.out (List.getElem?_eq_getElem hjc)).2 (Nat.le_refl _)
          have hcc : cl[jj]? = some cl[jj] := List.getElem?_eq_getElem hjc
          obtain ⟨xk, xn', xs', xt', X0, p0, q0, X1, p1, q1, X2, p2, q2, rfl⟩ := h8.shape
          rw [h6] at hcc
          have HRC := Lib.hid (hRC hn2)
          obtain ⟨op, os⟩ := o
          dsimp only at h1 h2 h3 h6 h7 hcc
          obtain ⟨OP, hOP⟩ : ∃ OP, OP = strB op := ⟨_, rfl⟩
          have HOP := Lib.hid hOP
          obtain ⟨no, hno⟩ : ∃ no, no = os.length := ⟨_, rfl⟩
          have HNo := Lib.hid hno
          rw [← hOP, ← hno] at hcc
          have d0 := HRC.out.cell hcc (i := 0) rfl
          have d1 := HRC.out.cell hcc (i := 1) rfl
          have d2 := HRC.out.cell hcc (i := 2) rfl
          have d3 := HRC.out.cell hcc (i := 3) rfl
          have d4 := HRC.out.cell hcc (i := 4) rfl
          have d5 := HRC.out.cell hcc (i := 5) rfl
          have d6 := HRC.out.cell hcc (i := 6) rfl
          have d7 := HRC.out.cell hcc (i := 7) rfl
          have d8 := HRC.out.cell hcc (i := 8) rfl
          rw [Nat.add_zero] at d0
          have j1 : (jj : Int) < (n2 : Int) := by omega
          have HRp := Lib.hid hRp
          have HRe := Lib.hid h8
          have HOn := Lib.hid h7
          have HCl := Lib.hid hcl
          have HCC := Lib.hid hcc
          have HOj := Lib.hid hoj
          have HH : Hid (okS op ∧ (∀ y ∈ os, okS y) ∧ os.length ≤ fc ∧ fc ≤ maxLen) := Lib.hid ⟨h1, h2, h3, h4⟩
          have hno2 : no ≤ 1000 := by rw [hno]; exact HSm.out _ (List.mem_of_getElem? hoj)
          clear hRp hcl hx hRC hM hcc hjl hjc h1 h2 h3 h4 h5 h6 h7 h8 hOP hno hoj
          go_wp2_with fail
          obtain ⟨X, hX⟩ : ∃ X, wr.alloc (.cells #[.string OP, .slice F no fc, .int .i64 xk, .int .i64 xn', .string xs', .string xt', .slice X0 p0 q0, .slice X1 p1 q1, .slice X2 p2 q2] 83) = X := ⟨_, rfl⟩
          have HGX : Hid (wr.grownBy X none) := Lib.hid (by rw [← hX]; exact World.grownBy_alloc _ _ _)
          have HPX : Hid (X.heap[wr.heap.size]? = some (.cells #[.string OP, .slice F no fc, .int .i64 xk, .int .i64 xn', .string xs', .string xt', .slice X0 p0 q0, .slice X1 p1 q1, .slice X2 p2 q2] 83 (0, 0))) := Lib.hid (by rw [← hX]; exact heap_alloc_new _ _)
          have hpl : wr.heap.size < X.heap.size := (Array.getElem?_eq_some_iff.1 HPX.out).1
          have HEX := Lib.hid (hE.out.kept HGX.out (by simp))
          have HBX : Hid (Below wr.heap.size wr X) := Lib.hid (by rw [← hX]; exact (Below.refl _ _).alloc (Nat.le_refl _) _)
          rw [hX]
          clear hX d0 d1 d2 d3 d4 d5 d6 d7 d8 e6
          have HAll : Hid (∀ w', EB w' w.heap.size (.int .i64 k) (.int .i64 n) (.string S) (.string T) (.slice A4 n0 c4) (.slice A5 kk c5) (.slice (some ⟨g6, 0, none⟩) n2 c6) → w'.heap[wr.heap.size]? = some (.cells #[.string OP, .slice F no fc, .int .i64 xk, .int .i64 xn', .string xs', .string xt', .slice X0 p0 q0, .slice X1 p1 q1, .slice X2 p2 q2] 83 (0, 0)) → w'.cell? ⟨w.heap.size, 6, none⟩ = some (.slice (some ⟨g6, 0, none⟩) n2 c6) ∧ w'.cell? ⟨wr.heap.size, 0, none⟩ = some (.string OP) ∧ w'.cell? ⟨wr.heap.size, 1, none⟩ = some (.slice F no fc) ∧ w'.cell? ⟨wr.heap.size, 2, none⟩ = some (.int .i64 xk) ∧ w'.cell? ⟨wr.heap.size, 3, none⟩ = some (.int .i64 xn') ∧ w'.cell? ⟨wr.heap.size, 4, none⟩ = some (.string xs') ∧ w'.cell? ⟨wr.heap.size, 5, none⟩ = some (.string xt') ∧ w'.cell? ⟨wr.heap.size, 6, none⟩ = some (.slice X0 p0 q0) ∧ w'.cell? ⟨wr.heap.size, 7, none⟩ = some (.slice X1 p1 q1) ∧ w'.cell? ⟨wr.heap.size, 8, none⟩ = some (.slice X2 p2 q2)) := Lib.hid (fun w' h1 h2 => ⟨h1.c6, by have := cell_of_row w' wr.heap.size 0 _ _ (0, 0) h2; simpa using this, by have := cell_of_row w' wr.heap.size 1 _ _ (0, 0) h2; simpa using this, by have := cell_of_row w' wr.heap.size 2 _ _ (0, 0) h2; simpa using this, by have := cell_of_row w' wr.heap.size 3 _ _ (0, 0) h2; simpa using this, by have := cell_of_row w' wr.heap.size 4 _ _ (0, 0) h2; simpa using this, by have := cell_of_row w' wr.heap.size 5 _ _ (0, 0) h2; simpa using this, by have := cell_of_row w' wr.heap.size 6 _ _ (0, 0) h2; simpa using this, by have := cell_of_row w' wr.heap.size 7 _ _ (0, 0) h2; simpa using this, by have := cell_of_row w' wr.heap.size 8 _ _ (0, 0) h2; simpa using this⟩)
          have hgd : X.grownBy X.drew none := grown_below (PtS.drew (Below.refl _ _)) none
          refine wp_region_held_drew (S := fun w' => w'.cell? ⟨w.heap.size, 6, none⟩ = some (.slice (some ⟨g6, 0, none⟩) n2 c6) ∧ w'.cell? ⟨wr.heap.size, 0, none⟩ = some (.string OP) ∧ w'.cell? ⟨wr.heap.size, 1, none⟩ = some (.slice F no fc) ∧ w'.cell? ⟨wr.heap.size, 2, none⟩ = some (.int .i64 xk) ∧ w'.cell? ⟨wr.heap.size, 3, none⟩ = some (.int .i64 xn') ∧ w'.cell? ⟨wr.heap.size, 4, none⟩ = some (.string xs') ∧ w'.cell? ⟨wr.heap.size, 5, none⟩ = some (.string xt') ∧ w'.cell? ⟨wr.heap.size, 6, none⟩ = some (.slice X0 p0 q0) ∧ w'.cell? ⟨wr.heap.size, 7, none⟩ = some (.slice X1 p1 q1) ∧ w'.cell? ⟨wr.heap.size, 8, none⟩ = some (.slice X2 p2 q2)) (by kernel_rfl) (HAll.out _ (HEX.out.kept hgd (by simp)) ((hgd.block _ hpl (by simp)).trans HPX.out)) (fun hHeld => ?_)
          refine takeG (i := 0) (d := 42) (v := (.pointer (some ⟨w.heap.size, 6, none⟩))) rfl rfl (by kernel_rfl) (by kernel_rfl) (by kernel_rfl) (fun _ _ _ h => h) (Or.inl ⟨by kernel_rfl, fun w hSw => (by (try dsimp only at hSw); go_simp)⟩) hHeld ?_
          refine takeG (i := 1) (d := 43) (v := (.slice (some ⟨g6, 0, none⟩) n2 c6)) rfl rfl (by kernel_rfl) (by kernel_rfl) (by kernel_rfl) (fun _ _ _ h => h) (Or.inl ⟨by kernel_rfl, fun w hSw => (by (try dsimp only at hSw); go_simp)⟩) hHeld ?_
          refine takeG (i := 2) (d := 44) (v := (.int .i64 (jj : Int))) rfl rfl (by kernel_rfl) (by kernel_rfl) (by kernel_rfl) (fun _ _ _ h => h) (Or.inl ⟨by kernel_rfl, fun w hSw => (by (try dsimp only at hSw); go_simp)⟩) hHeld ?_
          refine takeG (i := 3) (d := 45) (v := (.pointer (some ⟨wr.heap.size, 0, none⟩))) rfl rfl (by kernel_rfl) (by kernel_rfl) (by kernel_rfl) (fun _ _ _ h => h) (Or.inl ⟨by kernel_rfl, fun w hSw => (by (try dsimp only at hSw); go_simp)⟩) hHeld ?_
          refine takeG (i := 4) (d := 46) (v := (.string OP)) rfl rfl (by kernel_rfl) (by kernel_rfl) (by kernel_rfl) (fun _ _ _ h => h) (Or.inl ⟨by kernel_rfl, fun w hSw => (by (try dsimp only at hSw); go_simp)⟩) hHeld ?_
          refine takeG (i := 5) (d := 47) (v := (.pointer (some ⟨wr.heap.size, 1, none⟩))) rfl rfl (by kernel_rfl) (by kernel_rfl) (by kernel_rfl) (fun _ _ _ h => h) (Or.inl ⟨by kernel_rfl, fun w hSw => (by (try dsimp only at hSw); go_simp)⟩) hHeld ?_
          refine takeG (i := 6) (d := 48) (v := (.slice F no fc)) rfl rfl (by kernel_rfl) (by kernel_rfl) (by kernel_rfl) (fun _ _ _ h => h) (Or.inl ⟨by kernel_rfl, fun w hSw => (by (try dsimp only at hSw); go_simp)⟩) hHeld ?_
          refine takeG (i := 8) (d := 50) (v := (.pointer (some ⟨wr.heap.size, 2, none⟩))) rfl rfl (by kernel_rfl) (by kernel_rfl) (by kernel_rfl) (fun _ _ _ h => h) (Or.inl ⟨by kernel_rfl, fun w hSw => (by (try dsimp only at hSw); go_simp)⟩) hHeld ?_
          refine takeG (i := 9) (d := 51) (v := (.agg #[.int .i64 xk, .int .i64 xn', .string xs', .string xt', .slice X0 p0 q0, .slice X1 p1 q1, .slice X2 p2 q2])) rfl rfl (by kernel_rfl) (by kernel_rfl) (by kernel_rfl) (fun _ _ _ h => h) (Or.inl ⟨by kernel_rfl, fun w hSw => (by (try dsimp only at hSw); go_simp)⟩) hHeld ?_
          simp only [List.setIfInBounds_toArray, List.set_cons_succ, List.set_cons_zero]
          refine stepG (i := 7) (by kernel_rfl) rfl (by kernel_rfl) (fun K hK => ?_)
          go_simp
          have hwX : Below wr.heap.size wr X.drew := HBX.out.trans (Below.mono (PtS.drew (Below.refl X.heap.size X)) HBX.out.size)
          refine (cloneN_any F no fc os X.drew (HOn.out.keepC (KC.of_same hwX)) HNo.out hno2).mono ?_
          rintro e w5 ⟨G, gc, rfl, hGn, hGc, hb5⟩
          have hw5 : Below wr.heap.size wr w5 := hwX.trans (hb5.mono hwX.size)
          have hE5 := hE.out.kept (grown_below hw5 none) (by simp)
          have hg5 : X.grownBy w5 none := grown_trans hgd (grown_below hb5 none)
          have hP5 := (hg5.block _ hpl (by simp)).trans HPX.out
          have hH5 := HAll.out _ hE5 hP5
          refine hK.out _ _ hH5 ?_
          clear hK K
          refine stepG (i := 10) (by kernel_rfl) rfl (by kernel_rfl) (fun K hK => ?_)
          go_simp
          refine (HIh.out x (List.mem_append_right _ (List.mem_of_getElem? HXm.out)) _ _ _ _ _ _ _ _ _ _ _ _ _ w5 ((HRe.out.keepC (KC.of_same hw5)).weaken (fun _ _ => trivial))).mono ?_
          rintro e w2 ⟨k', n', s', t', A0', n0', c0', A1', n1', c1', A2', n2', c2', rfl, hr, hb⟩
          have hgr : wr.heap.size ≤ w5.heap.size := hw5.size
          have hw2 : Below wr.heap.size wr w2 := hw5.trans (hb.mono hgr)
          have hE2 := hE.out.kept (grown_below hw2 none) (by simp)
          have hP2 := ((grown_below hb none).block _ (Nat.lt_of_lt_of_le hpl hg5.size) (by simp)).trans hP5
          have hH2 := HAll.out _ hE2 hP2
          have hR2 := HRC.out.kept (grown_below hw2 none) (by simp)
          have hgl : g6 < wr.heap.size := HRC.out.lt
          have hjc : jj < cl.length := by rw [HCl.out]; exact hjn
          have v0 := hR2.cell HCC.out (i := 0) rfl
          have s0 := hR2.fr (jj * 9 + 0)
          have v1 := hR2.cell HCC.out (i := 1) rfl
          have s1 := hR2.fr (jj * 9 + 1)
          have v2 := hR2.cell HCC.out (i := 2) rfl
          have s2 := hR2.fr (jj * 9 + 2)
          have v3 := hR2.cell HCC.out (i := 3) rfl
          have s3 := hR2.fr (jj * 9 + 3)
          have v4 := hR2.cell HCC.out (i := 4) rfl
          have s4 := hR2.fr (jj * 9 + 4)
          have v5 := hR2.cell HCC.out (i := 5) rfl
          have s5 := hR2.fr (jj * 9 + 5)
          have v6 := hR2.cell HCC.out (i := 6) rfl
          have s6 := hR2.fr (jj * 9 + 6)
          have v7 := hR2.cell HCC.out (i := 7) rfl
          have s7 := hR2.fr (jj * 9 + 7)
          have v8 := hR2.cell HCC.out (i := 8) rfl
          have s8 := hR2.fr (jj * 9 + 8)
          rw [Nat.add_zero] at v0 s0
          refine hK.out _ _ hH2 ?_
          clear hK K
          refine takeG (i := 11) (d := 53) (v := (.agg #[.string OP, .slice G no gc, .int .i64 k', .int .i64 n', .string s', .string t', .slice A0' n0' c0', .slice A1' n1' c1', .slice A2' n2' c2'])) rfl rfl (by kernel_rfl) (by kernel_rfl) (by kernel_rfl) (fun _ _ _ h => h) (Or.inl ⟨by kernel_rfl, fun w hSw => (by (try dsimp only at hSw); go_simp)⟩) hH2 ?_
          simp only [List.setIfInBounds_toArray, List.set_cons_succ, List.set_cons_zero]
          refine stepG (i := 12) (by kernel_rfl) rfl (by kernel_rfl) (fun K hK => ?_)
          go_simp
          refine hK.out _ _ hH2 ?_
          clear hK K
          refine stepG (i := 13) (by kernel_rfl) rfl (by kernel_rfl) (fun K hK => ?_)
          go_simp
          show K _ (put9 w2 g6 jj (.string OP) (.slice G no gc) (.int .i64 k') (.int .i64 n') (.string s') (.string t') (.slice A0' n0' c0') (.slice A1' n1' c1') (.slice A2' n2' c2'))
          have hset := put9_grown w2 g6 jj (.string OP) (.slice G no gc) (.int .i64 k') (.int .i64 n') (.string s') (.string t') (.slice A0' n0' c0') (.slice A1' n1' c1') (.slice A2' n2' c2')
          have hRf := hR2.put9 hjc (.string OP) (.slice G no gc) (.int .i64 k') (.int .i64 n') (.string s') (.string t') (.slice A0' n0' c0') (.slice A1' n1' c1') (.slice A2' n2' c2')
          have hgz : w.heap.size + 1 < g6 := by omega
          have hEf := hE2.kept hset (by simp; omega)
          have hHf := HAll.out _ hEf ((hset.block _ (by have := hw2.size; have := hb.size; have := hg5.size; omega) (by simp; omega)).trans hP2)
          have hQf := (hQ.out.kept (grown_below hw2 none) (by simp)).kept hset (by simp; omega)
          have hB2 := hB.out.trans (hw2.mono hB.out.size)
          have hBf := hB2.grown hset hB2.size (fun j e => by have := Option.some.inj e; omega)
          have hNf := (hN.out.keepC (KC.of_same hw2)).keepC (KC.of_grown hset (fun z hz e => hz.2 hn2 (Option.some.inj e)))
          have hLf := (hL.out.keepC (KC.of_same hw2)).keepC (KC.of_grown hset (fun z hz e => hz.2 hn2 (Option.some.inj e)))
          have hMf : (cl.set jj [.string OP, .slice G no gc, .int .i64 k', .int .i64 n', .string s', .string t', .slice A0' n0' c0', .slice A1' n1' c1', .slice A2' n2' c2']).length = n2 ∧ (n2 ≠ 0 → RowC (put9 w2 g6 jj (.string OP) (.slice G no gc) (.int .i64 k') (.int .i64 n') (.string s') (.string t') (.slice A0' n0' c0') (.slice A1' n1' c1') (.slice A2' n2' c2')) g6 83 9 (cl.set jj [.string OP, .slice G no gc, .int .i64 k', .int .i64 n', .string s', .string t', .slice A0' n0' c0', .slice A1' n1' c1', .slice A2' n2' c2'])) ∧
              (∀ (j : Nat) (x : Ex) (c : List Value), bs[j]? = some x → (cl.set jj [.string OP, .slice G no gc, .int .i64 k', .int .i64 n', .string s', .string t', .slice A0' n0' c0', .slice A1' n1' c1', .slice A2' n2' c2'])[j]? = some c → (j < jj + 1 → ∃ o, ops[j]? = some o ∧ ArmR (fun z => w.heap.size + 2 ≤ z ∧ z ≠ g6) (put9 w2 g6 jj (.string OP) (.slice G no gc) (.int .i64 k') (.int .i64 n') (.string s') (.string t') (.slice A0' n0' c0') (.slice A1' n1' c1') (.slice A2' n2' c2')) o x c) ∧ (jj + 1 ≤ j → ∃ o, ops[j]? = some o ∧ ArmR (fun z => z < w.heap.size) (put9 w2 g6 jj (.string OP) (.slice G no gc) (.int .i64 k') (.int .i64 n') (.string s') (.string t') (.slice A0' n0' c0') (.slice A1' n1' c1') (.slice A2' n2' c2')) o x c)) := by
            refine ⟨by rw [List.length_set, HCl.out], fun _ => hRf, fun j y c hj hc => ?_⟩
            rw [List.getElem?_set] at hc
            by_cases e : jj = j
            · subst e
              rw [if_pos rfl, if_pos hjc] at hc
              obtain rfl := Option.some.inj hc
              obtain rfl : y = x := Option.some.inj (hj.symm.trans HXm.out)
              refine ⟨fun _ => ⟨(op, os), HOj.out, G, gc, _, HH.out.1, HH.out.2.1, by rw [← HNo.out]; exact hGc.1, hGc.2, rfl, by rw [HOP.out, HNo.out], ?_, ?_⟩, fun h => by omega⟩
              · exact ((hGn.weaken (Q := fun z => w.heap.size + 2 ≤ z ∧ z ≠ g6) (fun z hz => ⟨by have := hwX.size; omega, by have := hwX.size; omega⟩)).keepC (KC.of_same hb)).keepC (KC.of_grown hset (fun z hz e => hz.2 (Option.some.inj e)))
              · exact (hr.weaken (Q := fun z => w.heap.size + 2 ≤ z ∧ z ≠ g6) (fun z hz => ⟨by omega, by omega⟩)).keepC (KC.of_grown hset (fun z hz e => hz.2 (Option.some.inj e)))
            · rw [if_neg e] at hc
              obtain ⟨r1, r2⟩ := HRp.out j y c hj hc
              refine ⟨fun h => ?_, fun h => ?_⟩
              · obtain ⟨o, ho, ha⟩ := r1 (by omega)
                exact ⟨o, ho, (ha.keepC (KC.of_same hw2)).keepC (KC.of_grown hset (fun z hz e => hz.2 (Option.some.inj e)))⟩
              · obtain ⟨o, ho, ha⟩ := r2 (by omega)
                exact ⟨o, ho, (ha.keepC (KC.of_same hw2)).keepC (KC.of_grown hset (fun z hz e => by have := Option.some.inj e; omega))⟩
          have HMf := Lib.hid hMf
          have HEf := Lib.hid hEf
          have HQf := Lib.hid hQf
          have HBf := Lib.hid hBf
          have HNf := Lib.hid hNf
          have HLf := Lib.hid hLf
          clear hMf hEf hQf hBf hNf hLf hset hRf hB2
          refine hK.out _ _ hHf ?_
          obtain ⟨Wf, hWf⟩ : ∃ Wf, put9 w2 g6 jj (.string OP) (.slice G no gc) (.int .i64 k') (.int .i64 n') (.string s') (.string t') (.slice A0' n0' c0') (.slice A1' n1' c1') (.slice A2' n2' c2') = Wf := ⟨_, rfl⟩
          rw [hWf] at HMf HEf HQf HBf HNf HLf ⊢
          clear hWf hHf hK K hH2 hHeld hE2 hP2 hR2 v0 s0 v1 s1 v2 s2 v3 s3 v4 s4 v5 s5 v6 s6 v7 s7 v8 s8 hr hb hw2 HAll hwX hgd hE5 hP5 hH5 hg5 hb5 hw5 hGn
          refine wpAnyH_done (by kernel_rfl) ?_ _
          go_wp2_with fail
          go_roundw
          case rel => exact ⟨jj + 1, _, by omega, by go_num, HMf, HEf, HQf, HBf, HNf, HLf⟩
          case measure => simp [intOf]; omega
        · obtain rfl : jj = n2 := by omega
          obtain ⟨hcl, hRC, hRp⟩ := hM.out
          have HAr : Hid (bs ≠ [] → ∃ b off, A6 = some ⟨b, off, none⟩ ∧ w.heap.size + 2 ≤ b ∧ b < wr.heap.size ∧ RepA (fun z => w.heap.size + 2 ≤ z) wr b off ops bs) := Lib.hid (fun h0 => by
            have hn2 : jj ≠ 0 := fun h => h0 (List.length_eq_zero_iff.1 (by rw [← HE6.out, h]))
            obtain ⟨hA, hgw, _⟩ := HRow6.out hn2
            refine ⟨g6, 0, hA, by omega, (hRC hn2).lt, RepA.of HOl.out fun j y hj => ?_⟩
            have hjl := (List.getElem?_eq_some_iff.1 hj).1
            have hjc : j < cl.length := by rw [hcl, HE6.out]; exact hjl
            obtain ⟨o, hoj, A, cc, cs, h1, h2, h3, h4, h5, h6, h7, h8⟩ := (hRp j y _ hj (List.getElem?_eq_getElem hjc)).1 (by have := HE6.out; omega)
            refine ⟨o, hoj, A, cc, cs, h1, h2, h3, h4, h5, fun i v hi => ?_, h7.weaken (fun z hz => hz.1), h8.weaken (fun z hz => hz.1)⟩
            rw [← h6] at hi
            rw [Nat.zero_add]
            exact (hRC hn2).cell (List.getElem?_eq_getElem hjc) hi)
          clear hcl hRC hRp hM e6
          have e0 := hE.out.c0
          have r0 := hE.out.fr 0
          have e1 := hE.out.c1
          have r1 := hE.out.fr 1
          have e2 := hE.out.c2
          have r2 := hE.out.fr 2
          have e3 := hE.out.c3
          have r3 := hE.out.fr 3
          have e4 := hE.out.c4
          have r4 := hE.out.fr 4
          have e5 := hE.out.c5
          have r5 := hE.out.fr 5
          have e6 := hE.out.c6
          have r6 := hE.out.fr 6
          have v0 := hQ.out.c0
          have s0 := hQ.out.fr 0
          have v1 := hQ.out.c1
          have s1 := hQ.out.fr 1
          have v2 := hQ.out.c2
          have s2 := hQ.out.fr 2
          have v3 := hQ.out.c3
          have s3 := hQ.out.fr 3
          have v4 := hQ.out.c4
          have s4 := hQ.out.fr 4
          have v5 := hQ.out.c5
          have s5 := hQ.out.fr 5
          have v6 := hQ.out.c6
          have s6 := hQ.out.fr 6
          go_wp2_with fail
          have hset := set7_grown wr (w.heap.size + 1) (.int .i64 k) (.int .i64 n) (.string S) (.string T) (.slice A4 n0 c4) (.slice A5 kk c5) (.slice A6 jj c6)
          have hq : ∀ z, w.heap.size + 2 ≤ z → some z ≠ some (w.heap.size + 1) := fun z hz e => by have := Option.some.inj e; omega
          have hkc : KC (fun z => w.heap.size + 2 ≤ z) wr (set7 wr (w.heap.size + 1) (.int .i64 k) (.int .i64 n) (.string S) (.string T) (.slice A4 n0 c4) (.slice A5 kk c5) (.slice A6 jj c6)) := KC.of_grown hset hq
          have hbf := hB.out.grown hset hB.out.size (fun j e => by have := Option.some.inj e; omega)
          have hF := HFit.out
          have hNn := ((hN.out.weaken (Q := fun z => w.heap.size + 2 ≤ z) (fun z hz => hz.1)).keepC hkc).weaken (Q := fun z => w.heap.size ≤ z) (fun z hz => by omega)
          have hLn := ((hL.out.weaken (Q := fun z => w.heap.size + 2 ≤ z) (fun z hz => hz.1)).keepC hkc).weaken (Q := fun z => w.heap.size ≤ z) (fun z hz => by omega)
          refine bodyPost_ret (res_clone rfl (hQ.out.all _ _ _ _ _ _ _)) rfl ⟨k, n, S, T, A4, n0, c4, A5, kk, c5, A6, jj, c6, rfl, ⟨A4, c4, A5, c5, A6, c6, ?_, ⟨hF.hk, hF.hn, hF.hs, hF.ht, hF.hns, ?_, ?_, ?_⟩, hNn, hLn, fun h0 => ?_, HOl.out⟩, hbf⟩
          · rw [HSx.out, HTx.out, HLn.out, HE5.out, HE6.out]; rfl
          · rw [← HLn.out]; exact HC4.out
          · rw [← HE5.out]; exact HC5.out
          · rw [← HE6.out]; exact HC6.out
          · obtain ⟨b, off, e, h1, h2, h3⟩ := HAr.out h0
            exact ⟨b, off, e, by omega, Nat.lt_of_lt_of_le h2 hset.size, RepA.weaken (fun z hz => by omega) (RepA.keepC hkc h1 h3)⟩
end Go.Proofs.YtbmicnajedeenaaGreatDoor
/- The size test of programs. -/
namespace Go.Proofs.YtbmicnajedeenaaGreatDoor
open Go.RowKit

def gTs (l : List Ty) : Bool := l.any greatT
def gCn (x : Cn) : Bool := decide (100 < x.1.length) || decide (50 < x.2.length) || gTs x.2
def gDt (x : Dt) : Bool := decide (100 < x.1.length) || longP x.2.1 || decide (50 < x.2.2.length) || x.2.2.any gCn
def gOp (x : Opn) : Bool := decide (100 < x.1.length) || greatT x.2.1 || greatT x.2.2.1
def gEf (x : Ef) : Bool := decide (100 < x.1.length) || decide (50 < x.2.length) || x.2.any gOp
def gDf (x : Df) : Bool := decide (100 < x.1.length) || great x.2
def greatPg (p : Pg) : Bool := decide (50 < p.ds.length) || decide (50 < p.fs.length) || decide (80 < p.dfs.length) || great p.m || p.ds.any gDt || p.fs.any gEf || p.dfs.any gDf
theorem any_take_snoc {α : Type} {f : α → Bool} {L : List α} {k : Nat} (hk : k < L.length) (h : (L.take k).any f = false) (hx : f L[k] = false) : (L.take (k + 1)).any f = false := by
  rw [List.take_add_one, List.getElem?_eq_getElem hk, List.any_append, h]; simp [hx]
theorem any_of_at {α : Type} {f : α → Bool} {L : List α} {k : Nat} (hk : k < L.length) (hx : f L[k] = true) : L.any f = true := List.any_eq_true.2 ⟨_, List.getElem_mem hk, hx⟩
set_option maxRecDepth 100000 in
set_option maxHeartbeats 2000000 in
theorem greatTypes_any (A : Option Addr) (c : Nat) (L : List Ty) (w : World) (h : RowAt (fun _ => True) w A 6 (RepT (fun _ => True) w) L) (hl : L.length ≤ maxLen) :
    Calls Tryz.prog 14 #[.slice A L.length c] w fun e w' => e = .returned (.bool (gTs L)) ∧ Below w.heap.size w w' := by
  have HL := Lib.hid h
  obtain ⟨n, hn⟩ : ∃ n, n = L.length := ⟨_, rfl⟩
  have HN := Lib.hid hn
  unfold maxLen at hl
  rw [← hn] at hl ⊢
  clear h hn
  go_enter Tryz.func14, Tryz.ntmps14
  go_wp2_with fail
  go_loopw [3] (fun i wr => ∃ k : Nat, k ≤ n ∧ i = .int .i64 (k : Int) ∧ Hid (Below w.heap.size w wr) ∧ Hid (gTs (L.take k) = false)) (fun i _ => n - (intOf i).toNat)
  case atStart => exact ⟨0, Nat.zero_le _, rfl, Lib.hid (Below.refl _ _), Lib.hid (by simp [gTs])⟩
  case round =>
    obtain ⟨j, hk, rfl, hB, hno⟩ := hrel
    have i0 : (0 : Int) ≤ (j : Int) := by omega
    by_cases hkl : j < n
    · have hkl' : j < L.length := by rw [← HN.out]; exact hkl
      obtain ⟨b, off, rfl, _, hlt, hc⟩ := (HL.out.keepC (KC.of_same hB.out) (fun _ _ h => h.keepC (KC.of_same hB.out))) (List.ne_nil_of_length_pos (by omega))
      obtain ⟨cs, _, hcs, hr⟩ := hc j _ (List.getElem?_eq_getElem hkl')
      obtain ⟨k, n', s, A0, n0, m0, A1, n1, m1, t, rfl⟩ := hr.shape3
      have d0 := hcs 0 _ rfl
      have d1 := hcs 1 _ rfl
      have d2 := hcs 2 _ rfl
      have d3 := hcs 3 _ rfl
      have d4 := hcs 4 _ rfl
      have d5 := hcs 5 _ rfl
      rw [Nat.add_zero] at d0
      have i1 : (j : Int) < (n : Int) := by omega
      have HG := Lib.hid (GreatType_any L[j] _ _ _ _ _ _ wr hr)
      obtain ⟨g, hg⟩ : ∃ g, g = greatT L[j] := ⟨_, rfl⟩
      rw [← hg] at HG
      cases g
      · have HT : Hid (gTs (L.take (j + 1)) = false) := Lib.hid (any_take_snoc hkl' hno.out hg.symm)
        clear hc hcs hr hg
        go_wp2_with fail
        refine HG.out.mono ?_
        rintro e w2 ⟨rfl, hb⟩
        have HB2 := Lib.hid (hB.out.trans (hb.mono hB.out.size))
        clear hb HG d0 d1 d2 d3 d4 d5
        go_wp2_with fail
        go_roundw
        case rel => exact ⟨j + 1, by omega, by go_num, HB2, HT⟩
        case measure => simp [intOf]; omega
      · have HT : Hid (gTs L = true) := Lib.hid (any_of_at hkl' hg.symm)
        clear hc hcs hr hg
        go_wp2_with fail
        refine HG.out.mono ?_
        rintro e w2 ⟨rfl, hb⟩
        have HB2 := Lib.hid (hB.out.trans (hb.mono hB.out.size))
        clear hb HG d0 d1 d2 d3 d4 d5
        go_wp2_with fail
        go_ret
        exact ⟨by rw [HT.out]; rfl, HB2.out⟩
    · obtain rfl : j = n := by omega
      have HT : Hid (gTs L = false) := Lib.hid (by have := hno.out; rwa [HN.out, List.take_length] at this)
      go_wp2_with fail
      go_ret
      exact ⟨by rw [HT.out]; rfl, hB.out⟩
end Go.Proofs.YtbmicnajedeenaaGreatDoor
/- The size test of programs, walked. -/
namespace Go.Proofs.YtbmicnajedeenaaGreatDoor
open Go.RowKit

theorem RowAt.below {α : Type} {w w' : World} {A : Option Addr} {k : Nat} {R R' : α → List Value → Prop} {L : List α} (h : RowAt (fun _ => True) w A k R L) (hb : Below w.heap.size w w') (hR : ∀ x cs, R x cs → R' x cs) : RowAt (fun _ => True) w' A k R' L := h.keepC (KC.of_same hb) hR
set_option maxRecDepth 100000 in
set_option maxHeartbeats 8000000 in
theorem GreatProgram_any (p : Pg) (A : Option Addr) (nd a' : Nat) (B : Option Addr) (nf b' : Nat) (C : Option Addr) (ng c' : Nat) (k n : Int) (s t : ByteArray) (A0 : Option Addr) (n0 m0 : Nat) (A1 : Option Addr) (n1 m1 : Nat) (A2 : Option Addr) (n2 m2 : Nat) (w : World)
    (hp : RepG (fun _ => True) w p [.slice A nd a', .slice B nf b', .slice C ng c', .int .i64 k, .int .i64 n, .string s, .string t, .slice A0 n0 m0, .slice A1 n1 m1, .slice A2 n2 m2]) :
    Calls Tryz.prog 4 #[.agg #[.slice A nd a', .slice B nf b', .slice C ng c', .int .i64 k, .int .i64 n, .string s, .string t, .slice A0 n0 m0, .slice A1 n1 m1, .slice A2 n2 m2]] w fun e w' => e = .returned (.bool (greatPg p)) ∧ Below w.heap.size w w' := by
  obtain ⟨pd, pf, pg, pm⟩ := p
  obtain ⟨A', d1, B', d2, C', d3, c7, e, ⟨hc1, hc2, hc3⟩, hD, hF, hG, hm⟩ := hp
  simp only [List.cons.injEq, Value.slice.injEq] at e
  obtain ⟨⟨rfl, e1, rfl⟩, ⟨rfl, e2, rfl⟩, ⟨rfl, e3, rfl⟩, rfl⟩ := e
  dsimp only at e1 e2 e3 hc1 hc2 hc3 hD hF hG hm
  have l1 : nd ≤ maxLen := by rw [e1]; exact Nat.le_trans hc1.1 hc1.2
  have l2 : nf ≤ maxLen := by rw [e2]; exact Nat.le_trans hc2.1 hc2.2
  have l3 : ng ≤ maxLen := by rw [e3]; exact Nat.le_trans hc3.1 hc3.2
  obtain ⟨R, hR⟩ : ∃ R, R = greatPg ⟨pd, pf, pg, pm⟩ := ⟨_, rfl⟩
  have HR : Hid (R = (decide (50 < nd) || decide (50 < nf) || decide (80 < ng) || great pm || pd.any gDt || pf.any gEf || pg.any gDf)) := Lib.hid (by rw [hR, e1, e2, e3]; rfl)
  have HD := Lib.hid hD
  have HF := Lib.hid hF
  have HG := Lib.hid hG
  have HM := Lib.hid hm
  have HNd := Lib.hid e1
  have HNf := Lib.hid e2
  have HNg := Lib.hid e3
  rw [← hR]
  unfold maxLen at l1 l2 l3
  obtain ⟨W1, hW1⟩ : ∃ W1, w.alloc (.cells #[.slice A nd a', .slice B nf b', .slice C ng c', .int .i64 k, .int .i64 n, .string s, .string t, .slice A0 n0 m0, .slice A1 n1 m1, .slice A2 n2 m2] 32) = W1 := ⟨_, rfl⟩
  have HB1 : Hid (Below w.heap.size w W1) := Lib.hid (by rw [← hW1]; exact (Below.refl _ _).alloc (Nat.le_refl _) _)
  have hx : W1.heap[w.heap.size]? = some (.cells #[.slice A nd a', .slice B nf b', .slice C ng c', .int .i64 k, .int .i64 n, .string s, .string t, .slice A0 n0 m0, .slice A1 n1 m1, .slice A2 n2 m2] 32 (0, 0)) := by rw [← hW1]; exact heap_alloc_new w _
  have hxl : w.heap.size < W1.heap.size := (Array.getElem?_eq_some_iff.1 hx).1
  have HX : Hid (∀ wr, Below W1.heap.size W1 wr → wr.heap[w.heap.size]? = some (.cells #[.slice A nd a', .slice B nf b', .slice C ng c', .int .i64 k, .int .i64 n, .string s, .string t, .slice A0 n0 m0, .slice A1 n1 m1, .slice A2 n2 m2] 32 (0, 0))) := Lib.hid (fun wr hb => (hb.block _ hxl).trans hx)
  have HW : Hid (∀ wr, Below W1.heap.size W1 wr → Below w.heap.size w wr) := Lib.hid (fun wr hb => HB1.out.trans (hb.mono HB1.out.size))
  have x0 := cell_of_row W1 w.heap.size 0 _ _ (0, 0) hx
  have x1 := cell_of_row W1 w.heap.size 1 _ _ (0, 0) hx
  have x2 := cell_of_row W1 w.heap.size 2 _ _ (0, 0) hx
  have x3 := cell_of_row W1 w.heap.size 3 _ _ (0, 0) hx
  have x4 := cell_of_row W1 w.heap.size 4 _ _ (0, 0) hx
  have x5 := cell_of_row W1 w.heap.size 5 _ _ (0, 0) hx
  have x6 := cell_of_row W1 w.heap.size 6 _ _ (0, 0) hx
  have x7 := cell_of_row W1 w.heap.size 7 _ _ (0, 0) hx
  have x8 := cell_of_row W1 w.heap.size 8 _ _ (0, 0) hx
  have x9 := cell_of_row W1 w.heap.size 9 _ _ (0, 0) hx
  simp only [List.getElem?_toArray, List.getElem?_cons_zero, List.getElem?_cons_succ] at x0 x1 x2 x3 x4 x5 x6 x7 x8 x9
  clear hR e1 e2 e3 hD hF hG hm hc1 hc2 hc3 hx
  by_cases h1 : 50 < nd
  · have g1 : decide ((50 : Int) < (nd : Int)) = true := decide_eq_true (by omega)
    have HRf : Hid (R = true) := Lib.hid (by rw [HR.out, decide_eq_true h1]; rfl)
    clear HR h1
    go_enter Tryz.func4, Tryz.ntmps4
    go_wp2_with fail
    go_ret
    exact ⟨by rw [HRf.out]; rfl, HB1.out⟩
  by_cases h2 : 50 < nf
  · have g1 : decide ((50 : Int) < (nd : Int)) = false := decide_eq_false (by omega)
    have g2 : decide ((50 : Int) < (nf : Int)) = true := decide_eq_true (by omega)
    have HRf : Hid (R = true) := Lib.hid (by rw [HR.out, decide_eq_true h2]; simp)
    clear HR h1 h2
    go_enter Tryz.func4, Tryz.ntmps4
    go_wp2_with fail
    go_ret
    exact ⟨by rw [HRf.out]; rfl, HB1.out⟩
  by_cases h3 : 80 < ng
  · have g1 : decide ((50 : Int) < (nd : Int)) = false := decide_eq_false (by omega)
    have g2 : decide ((50 : Int) < (nf : Int)) = false := decide_eq_false (by omega)
    have g3 : decide ((80 : Int) < (ng : Int)) = true := decide_eq_true (by omega)
    have HRf : Hid (R = true) := Lib.hid (by rw [HR.out, decide_eq_true h3]; simp)
    clear HR h1 h2 h3
    go_enter Tryz.func4, Tryz.ntmps4
    go_wp2_with fail
    go_ret
    exact ⟨by rw [HRf.out]; rfl, HB1.out⟩
  have g1 : decide ((50 : Int) < (nd : Int)) = false := decide_eq_false (by omega)
  have g2 : decide ((50 : Int) < (nf : Int)) = false := decide_eq_false (by omega)
  have g3 : decide ((80 : Int) < (ng : Int)) = false := decide_eq_false (by omega)
  have HR2 : Hid (R = (great pm || pd.any gDt || pf.any gEf || pg.any gDf)) := Lib.hid (by rw [HR.out, decide_eq_false h1, decide_eq_false h2, decide_eq_false h3]; simp)
  have HGr := Lib.hid (Great_any (fun _ => True) pm _ _ _ _ _ _ _ W1 (HM.out.keep (Same.of_below HB1.out)))
  obtain ⟨g0, hg0⟩ : ∃ g, g = great pm := ⟨_, rfl⟩
  rw [← hg0] at HGr HR2
  clear HR hg0 h1 h2 h3
  cases g0
  case true =>
    have HRf : Hid (R = true) := Lib.hid (by rw [HR2.out]; simp)
    clear HR2
    go_enter Tryz.func4, Tryz.ntmps4
    go_wp2_with fail
    clear hW1
    refine HGr.out.mono ?_
    rintro e w2 ⟨rfl, hb⟩
    have HB2 := Lib.hid (HW.out _ hb)
    clear hb x0 x1 x2 x3 x4 x5 x6 x7 x8 x9
    go_wp2_with fail
    go_ret
    exact ⟨by rw [HRf.out]; rfl, HB2.out⟩
  have HR3 : Hid (R = (pd.any gDt || pf.any gEf || pg.any gDf)) := Lib.hid (by rw [HR2.out]; simp)
  clear HR2
  go_enter Tryz.func4, Tryz.ntmps4
  go_wp2_with fail
  clear hW1
  refine HGr.out.mono ?_
  rintro e w2 ⟨rfl, hb⟩
  have HB2 := Lib.hid hb
  clear hb x0 x1 x2 x3 x4 x5 x6 x7 x8 x9
  have x0 := cell_of_row w2 w.heap.size 0 _ _ (0, 0) (HX.out _ HB2.out)
  have x1 := cell_of_row w2 w.heap.size 1 _ _ (0, 0) (HX.out _ HB2.out)
  have x2 := cell_of_row w2 w.heap.size 2 _ _ (0, 0) (HX.out _ HB2.out)
  have x3 := cell_of_row w2 w.heap.size 3 _ _ (0, 0) (HX.out _ HB2.out)
  have x4 := cell_of_row w2 w.heap.size 4 _ _ (0, 0) (HX.out _ HB2.out)
  have x5 := cell_of_row w2 w.heap.size 5 _ _ (0, 0) (HX.out _ HB2.out)
  have x6 := cell_of_row w2 w.heap.size 6 _ _ (0, 0) (HX.out _ HB2.out)
  have x7 := cell_of_row w2 w.heap.size 7 _ _ (0, 0) (HX.out _ HB2.out)
  have x8 := cell_of_row w2 w.heap.size 8 _ _ (0, 0) (HX.out _ HB2.out)
  have x9 := cell_of_row w2 w.heap.size 9 _ _ (0, 0) (HX.out _ HB2.out)
  simp only [List.getElem?_toArray, List.getElem?_cons_zero, List.getElem?_cons_succ] at x0 x1 x2 x3 x4 x5 x6 x7 x8 x9
  go_wp2_with fail
  go_loopg [3] nd (fun g i wr => ∃ kk : Nat, Hid (kk + g = nd) ∧ i = .int .i64 (kk : Int) ∧ Hid (Below W1.heap.size W1 wr) ∧ Hid ((pd.take kk).any gDt = false))
  case atStart => exact ⟨0, Lib.hid (by omega), rfl, HB2, Lib.hid (by simp)⟩
  case round =>
    obtain ⟨kk, HGk, rfl, hB, hno⟩ := hrel
    have hk : kk ≤ nd := by have := HGk.out; omega
    have i0 : (0 : Int) ≤ (kk : Int) := by omega
    clear x0 x1 x2 x3 x4 x5 x6 x7 x8 x9
    have x0 := cell_of_row wr w.heap.size 0 _ _ (0, 0) (HX.out _ hB.out)
    have x1 := cell_of_row wr w.heap.size 1 _ _ (0, 0) (HX.out _ hB.out)
    have x2 := cell_of_row wr w.heap.size 2 _ _ (0, 0) (HX.out _ hB.out)
    have x3 := cell_of_row wr w.heap.size 3 _ _ (0, 0) (HX.out _ hB.out)
    have x4 := cell_of_row wr w.heap.size 4 _ _ (0, 0) (HX.out _ hB.out)
    have x5 := cell_of_row wr w.heap.size 5 _ _ (0, 0) (HX.out _ hB.out)
    have x6 := cell_of_row wr w.heap.size 6 _ _ (0, 0) (HX.out _ hB.out)
    have x7 := cell_of_row wr w.heap.size 7 _ _ (0, 0) (HX.out _ hB.out)
    have x8 := cell_of_row wr w.heap.size 8 _ _ (0, 0) (HX.out _ hB.out)
    have x9 := cell_of_row wr w.heap.size 9 _ _ (0, 0) (HX.out _ hB.out)
    simp only [List.getElem?_toArray, List.getElem?_cons_zero, List.getElem?_cons_succ] at x0 x1 x2 x3 x4 x5 x6 x7 x8 x9
    by_cases hkl : kk < nd
    · have hkl' : kk < pd.length := by rw [← HNd.out]; exact hkl
      have i1 : (kk : Int) < (nd : Int) := by omega
      obtain ⟨zb, zo, rfl, _, hlt, hc⟩ := (HD.out.below (HW.out _ hB.out) (fun _ _ h => h.keepC (KC.of_same (HW.out _ hB.out)))) (List.ne_nil_of_length_pos (by omega))
      obtain ⟨cs, _, hcs, hr⟩ := hc kk _ (List.getElem?_eq_getElem hkl')
      obtain ⟨y, hy⟩ : ∃ y, y = pd[kk] := ⟨_, rfl⟩
      have HYm : Hid (y = pd[kk]) := Lib.hid hy
      rw [← hy] at hr
      obtain ⟨ys, yn, yl⟩ := y
      obtain ⟨E0, e0, E1, e1, rfl, hys, hyc, hyo, hyn, hyc', hyr⟩ := hr
      simp only at hcs hys hyc hyo hyn hyc' hyr
      have q0 := hcs 0 _ rfl
      have q1 := hcs 1 _ rfl
      have q2 := hcs 2 _ rfl
      rw [Nat.add_zero] at q0
      have lcn : yl.length ≤ maxLen := Nat.le_trans hyc'.1 hyc'.2
      have lpn : yn.length ≤ maxLen := Nat.le_trans hyc.1 hyc.2
      have HLg := Lib.hid (fun w' (hb : Below wr.heap.size wr w') => long_any (fun _ => True) E0 e0 yn w' (hyn.keep (Same.of_below hb)) lpn)
      have HRw := Lib.hid hyr
      obtain ⟨S, hS⟩ : ∃ S, S = strB ys := ⟨_, rfl⟩
      have HS : Hid (S.size = ys.length) := Lib.hid (by rw [hS, strB_size])
      have HSz : (S.size : Int) ≤ 9223372036854775807 := by have := HS.out; have h2 : ys.length ≤ maxLen := hys; unfold maxLen at h2; omega
      obtain ⟨lg, hlg⟩ : ∃ g, g = longP yn := ⟨_, rfl⟩
      obtain ⟨np, hnp⟩ : ∃ g, g = yn.length := ⟨_, rfl⟩
      obtain ⟨nc, hnc⟩ : ∃ g, g = yl.length := ⟨_, rfl⟩
      have HNc := Lib.hid hnc
      have HGd : Hid (gDt pd[kk] = (decide (100 < S.size) || lg || decide (50 < nc) || yl.any gCn)) := Lib.hid (by rw [← HYm.out, HS.out, hlg, hnc]; rfl)
      have HAt : Hid (gDt pd[kk] = true → R = true) := Lib.hid (fun h => by rw [HR3.out, any_of_at hkl' h]; simp)
      have HTk : Hid (gDt pd[kk] = false → (pd.take (kk + 1)).any gDt = false) := Lib.hid (any_take_snoc hkl' hno.out)
      rw [← hlg, ← hnp] at HLg
      rw [← hS] at q0
      rw [← hnp] at q1
      rw [← hnc] at q2 lcn
      unfold maxLen at lcn
      clear hc hcs hS hlg hnp hnc hys hyc hyo hyn hyc' hyr hy HYm hlt lpn
      by_cases h1 : 100 < S.size
      · have p1 : decide ((100 : Int) < (S.size : Int)) = true := decide_eq_true (by omega)
        have HRf := Lib.hid (HAt.out (by rw [HGd.out, decide_eq_true h1]; simp))
        clear HR3 h1
        go_wp2_with fail
        go_ret
        exact ⟨by rw [HRf.out]; rfl, (HW.out _ hB.out).alloc (HW.out _ hB.out).size _⟩
      have p1 : decide ((100 : Int) < (S.size : Int)) = false := decide_eq_false (by omega)
      cases lg
      case true =>
        have HRf := Lib.hid (HAt.out (by rw [HGd.out]; simp))
        clear HR3 h1
        go_wp2_with fail
        refine (HLg.out _ ((Below.refl _ _).alloc (Nat.le_refl _) _)).mono ?_
        rintro e w2 ⟨rfl, rfl⟩
        go_wp2_with fail
        go_ret
        exact ⟨by rw [HRf.out]; rfl, (HW.out _ hB.out).alloc (HW.out _ hB.out).size _⟩
      by_cases h5 : 50 < nc
      · have p2 : decide ((50 : Int) < (nc : Int)) = true := decide_eq_true (by omega)
        have HRf := Lib.hid (HAt.out (by rw [HGd.out, decide_eq_true h5]; simp))
        clear HR3 h1 h5
        go_wp2_with fail
        refine (HLg.out _ ((Below.refl _ _).alloc (Nat.le_refl _) _)).mono ?_
        rintro e w2 ⟨rfl, rfl⟩
        go_wp2_with fail
        go_ret
        exact ⟨by rw [HRf.out]; rfl, (HW.out _ hB.out).alloc (HW.out _ hB.out).size _⟩
      have p2 : decide ((50 : Int) < (nc : Int)) = false := decide_eq_false (by omega)
      have HGd2 : Hid (gDt pd[kk] = yl.any gCn) := Lib.hid (by rw [HGd.out, decide_eq_false h1, decide_eq_false h5]; simp)
      clear HGd h1 h5
      go_wp2_with fail
      refine (HLg.out _ ((Below.refl _ _).alloc (Nat.le_refl _) _)).mono ?_
      rintro e w2 ⟨rfl, rfl⟩
      go_wp2_with fail
      obtain ⟨Wd, hWd⟩ : ∃ Wd, wr.alloc (.cells #[.string S, .slice E0 np e0, .slice E1 nc e1] 49) = Wd := ⟨_, rfl⟩
      have hBd : Below wr.heap.size wr Wd := by rw [← hWd]; exact (Below.refl _ _).alloc (Nat.le_refl _) _
      have HBd := Lib.hid (hB.out.trans (hBd.mono hB.out.size))
      have hy0 : Wd.heap[wr.heap.size]? = some (.cells #[.string S, .slice E0 np e0, .slice E1 nc e1] 49 (0, 0)) := by rw [← hWd]; exact heap_alloc_new _ _
      have HYd : Hid (∀ w3, Below Wd.heap.size Wd w3 → w3.heap[wr.heap.size]? = some (.cells #[.string S, .slice E0 np e0, .slice E1 nc e1] 49 (0, 0))) := Lib.hid (fun w3 hb => (hb.block _ (Array.getElem?_eq_some_iff.1 hy0).1).trans hy0)
      have HRd := Lib.hid (HRw.out.below hBd (fun _ _ h => h.keepC (KC.of_same hBd)))
      rw [hWd]
      obtain ⟨db, hdb⟩ : ∃ db, db = wr.heap.size := ⟨_, rfl⟩
      rw [← hdb] at HYd ⊢
      clear hWd hBd hy0 q0 q1 q2 x0 x1 x2 x3 x4 x5 x6 x7 x8 x9 HLg hdb HRw hB
      go_loopw [5] (fun i w3 => ∃ jj : Nat, jj ≤ nc ∧ i = .int .i64 (jj : Int) ∧ Hid (Below Wd.heap.size Wd w3) ∧ Hid ((yl.take jj).any gCn = false)) (fun i _ => nc - (intOf i).toNat)
      case atStart => exact ⟨0, Nat.zero_le _, rfl, Lib.hid (Below.refl _ _), Lib.hid (by simp)⟩
      case round =>
        obtain ⟨jj, hj, rfl, hBj, hnj⟩ := hrel
        have j0 : (0 : Int) ≤ (jj : Int) := by omega
        have z0 := cell_of_row _ db 0 _ _ (0, 0) (HYd.out _ hBj.out)
        have z1 := cell_of_row _ db 1 _ _ (0, 0) (HYd.out _ hBj.out)
        have z2 := cell_of_row _ db 2 _ _ (0, 0) (HYd.out _ hBj.out)
        simp only [List.getElem?_toArray, List.getElem?_cons_zero, List.getElem?_cons_succ] at z0 z1 z2
        by_cases hjl : jj < nc
        · have hjl' : jj < yl.length := by rw [← HNc.out]; exact hjl
          have j1 : (jj : Int) < (nc : Int) := by omega
          obtain ⟨eb, eo, rfl, _, helt, hec⟩ := (HRd.out.below hBj.out (fun _ _ h => h.keepC (KC.of_same hBj.out))) (List.ne_nil_of_length_pos (by omega))
          obtain ⟨cs, _, hcs, hr⟩ := hec jj _ (List.getElem?_eq_getElem hjl')
          obtain ⟨v, hv⟩ : ∃ v, v = yl[jj] := ⟨_, rfl⟩
          have HVm : Hid (v = yl[jj]) := Lib.hid hv
          rw [← hv] at hr
          obtain ⟨vs, vl⟩ := v
          obtain ⟨F0, f0, rfl, hvs, hvc, hvr⟩ := hr
          dsimp only at hcs hvs hvc hvr
          have q0 := hcs 0 _ rfl
          have q1 := hcs 1 _ rfl
          rw [Nat.add_zero] at q0
          have lvl : vl.length ≤ maxLen := Nat.le_trans hvc.1 hvc.2
          have HGt := Lib.hid (fun w' (hb : Below wr.heap.size wr w') => greatTypes_any F0 f0 vl w' (hvr.below hb (fun _ _ h => h.keepC (KC.of_same hb))) lvl)
          obtain ⟨X, hX⟩ : ∃ S, S = strB vs := ⟨_, rfl⟩
          have HX2 : Hid (X.size = vs.length) := Lib.hid (by rw [hX, strB_size])
          have HXz : (X.size : Int) ≤ 9223372036854775807 := by have := HX2.out; have h2 : vs.length ≤ maxLen := hvs; unfold maxLen at h2; omega
          obtain ⟨gt, hgt⟩ : ∃ g, g = gTs vl := ⟨_, rfl⟩
          obtain ⟨nv, hnv⟩ : ∃ g, g = vl.length := ⟨_, rfl⟩
          have HGc : Hid (gCn yl[jj] = (decide (100 < X.size) || decide (50 < nv) || gt)) := Lib.hid (by rw [← HVm.out, HX2.out, hgt, hnv]; rfl)
          have HAc : Hid (gCn yl[jj] = true → R = true) := Lib.hid (fun h => HAt.out (by rw [HGd2.out]; exact any_of_at hjl' h))
          have HTj : Hid (gCn yl[jj] = false → (yl.take (jj + 1)).any gCn = false) := Lib.hid (any_take_snoc hjl' hnj.out)
          have HBo := Lib.hid (HBd.out.trans (hBj.out.mono HBd.out.size))
          rw [← hgt, ← hnv] at HGt
          rw [← hX] at q0
          rw [← hnv] at q1 lvl
          unfold maxLen at lvl
          clear hec hcs hX hgt hnv hvs hvc hvr hv HVm helt
          by_cases h1 : 100 < X.size
          · have p1 : decide ((100 : Int) < (X.size : Int)) = true := decide_eq_true (by omega)
            have HRf := Lib.hid (HAc.out (by rw [HGc.out, decide_eq_true h1]; simp))
            clear HR3 h1
            go_wp2_with fail
            go_ret
            exact ⟨by rw [HRf.out]; rfl, HW.out _ HBo.out⟩
          have p1 : decide ((100 : Int) < (X.size : Int)) = false := decide_eq_false (by omega)
          by_cases h5 : 50 < nv
          · have p2 : decide ((50 : Int) < (nv : Int)) = true := decide_eq_true (by omega)
            have HRf := Lib.hid (HAc.out (by rw [HGc.out, decide_eq_true h5]; simp))
            clear HR3 h1 h5
            go_wp2_with fail
            go_ret
            exact ⟨by rw [HRf.out]; rfl, HW.out _ HBo.out⟩
          have p2 : decide ((50 : Int) < (nv : Int)) = false := decide_eq_false (by omega)
          have HGc2 : Hid (gCn yl[jj] = gt) := Lib.hid (by rw [HGc.out, decide_eq_false h1, decide_eq_false h5]; simp)
          clear HGc h1 h5
          cases gt
          case true =>
            have HRf := Lib.hid (HAc.out HGc2.out)
            clear HR3
            go_wp2_with fail
            refine (HGt.out _ (Below.refl _ _)).mono ?_
            rintro e w4 ⟨rfl, hb⟩
            have HB4 := Lib.hid (HBo.out.trans (hb.mono HBo.out.size))
            clear hb
            go_wp2_with fail
            go_ret
            exact ⟨by rw [HRf.out]; rfl, HW.out _ HB4.out⟩
          have HTn := Lib.hid (HTj.out HGc2.out)
          go_wp2_with fail
          refine (HGt.out _ (Below.refl _ _)).mono ?_
          rintro e w4 ⟨rfl, hb⟩
          have HB4 := Lib.hid (hBj.out.trans (hb.mono hBj.out.size))
          clear hb q0 q1 z0 z1 z2 HGt
          go_wp2_with fail
          go_roundw
          case rel => exact ⟨jj + 1, by omega, by go_num, HB4, HTn⟩
          case measure => simp [intOf]; omega
        · obtain rfl : jj = nc := by omega
          have HTn := Lib.hid (HTk.out (by rw [HGd2.out]; have := hnj.out; rwa [HNc.out, List.take_length] at this))
          have HBo := Lib.hid (HBd.out.trans (hBj.out.mono HBd.out.size))
          go_wp2_with fail
          go_roundg (nd - (kk + 1))
          case rel => exact ⟨kk + 1, Lib.hid (by omega), by go_num, HBo, HTn⟩
          case measure => have := HGk.out; omega
    · obtain rfl : kk = nd := by omega
      have HR4 : Hid (R = (pf.any gEf || pg.any gDf)) := Lib.hid (by
        rw [HR3.out]
        have := hno.out
        rw [HNd.out, List.take_length] at this
        rw [this]; simp)
      obtain ⟨wq, hwq⟩ : ∃ wq, wq = wr := ⟨_, rfl⟩
      clear HR3 hwq wq
      go_wp2_with fail
      clear x0 x1 x2 x3 x4 x5 x6 x7 x8 x9
      go_loopg [6] nf (fun g i wr => ∃ kk : Nat, Hid (kk + g = nf) ∧ i = .int .i64 (kk : Int) ∧ Hid (Below W1.heap.size W1 wr) ∧ Hid ((pf.take kk).any gEf = false))
      case atStart => exact ⟨0, Lib.hid (by omega), rfl, hB, Lib.hid (by simp)⟩
      case round =>
        clear hB hno HGk
        obtain ⟨kk, HGk, rfl, hB, hno⟩ := hrel
        have hk : kk ≤ nf := by have := HGk.out; omega
        have i0 : (0 : Int) ≤ (kk : Int) := by omega
        have x0 := cell_of_row wr w.heap.size 0 _ _ (0, 0) (HX.out _ hB.out)
        have x1 := cell_of_row wr w.heap.size 1 _ _ (0, 0) (HX.out _ hB.out)
        have x2 := cell_of_row wr w.heap.size 2 _ _ (0, 0) (HX.out _ hB.out)
        have x3 := cell_of_row wr w.heap.size 3 _ _ (0, 0) (HX.out _ hB.out)
        have x4 := cell_of_row wr w.heap.size 4 _ _ (0, 0) (HX.out _ hB.out)
        have x5 := cell_of_row wr w.heap.size 5 _ _ (0, 0) (HX.out _ hB.out)
        have x6 := cell_of_row wr w.heap.size 6 _ _ (0, 0) (HX.out _ hB.out)
        have x7 := cell_of_row wr w.heap.size 7 _ _ (0, 0) (HX.out _ hB.out)
        have x8 := cell_of_row wr w.heap.size 8 _ _ (0, 0) (HX.out _ hB.out)
        have x9 := cell_of_row wr w.heap.size 9 _ _ (0, 0) (HX.out _ hB.out)
        simp only [List.getElem?_toArray, List.getElem?_cons_zero, List.getElem?_cons_succ] at x0 x1 x2 x3 x4 x5 x6 x7 x8 x9
        by_cases hkl : kk < nf
        · have hkl' : kk < pf.length := by rw [← HNf.out]; exact hkl
          have i1 : (kk : Int) < (nf : Int) := by omega
          obtain ⟨zb, zo, rfl, _, hlt, hc⟩ := (HF.out.below (HW.out _ hB.out) (fun _ _ h => h.keepC (KC.of_same (HW.out _ hB.out)))) (List.ne_nil_of_length_pos (by omega))
          obtain ⟨cs, _, hcs, hr⟩ := hc kk _ (List.getElem?_eq_getElem hkl')
          obtain ⟨y, hy⟩ : ∃ y, y = pf[kk] := ⟨_, rfl⟩
          have HYm : Hid (y = pf[kk]) := Lib.hid hy
          rw [← hy] at hr
          obtain ⟨ys, yl⟩ := y
          obtain ⟨E1, e1, rfl, hys, hyc', hyr⟩ := hr
          dsimp only at hcs hys hyc' hyr
          have q0 := hcs 0 _ rfl
          have q1 := hcs 1 _ rfl
          rw [Nat.add_zero] at q0
          have lcn : yl.length ≤ maxLen := Nat.le_trans hyc'.1 hyc'.2
          have HRw := Lib.hid hyr
          obtain ⟨S, hS⟩ : ∃ S, S = strB ys := ⟨_, rfl⟩
          have HS : Hid (S.size = ys.length) := Lib.hid (by rw [hS, strB_size])
          have HSz : (S.size : Int) ≤ 9223372036854775807 := by have := HS.out; have h2 : ys.length ≤ maxLen := hys; unfold maxLen at h2; omega
          obtain ⟨nc, hnc⟩ : ∃ g, g = yl.length := ⟨_, rfl⟩
          have HNc := Lib.hid hnc
          have HGd : Hid (gEf pf[kk] = (decide (100 < S.size) || decide (50 < nc) || yl.any gOp)) := Lib.hid (by rw [← HYm.out, HS.out, hnc]; rfl)
          have HAt : Hid (gEf pf[kk] = true → R = true) := Lib.hid (fun h => by rw [HR4.out, any_of_at hkl' h]; simp)
          have HTk : Hid (gEf pf[kk] = false → (pf.take (kk + 1)).any gEf = false) := Lib.hid (any_take_snoc hkl' hno.out)
          rw [← hS] at q0
          rw [← hnc] at q1 lcn
          unfold maxLen at lcn
          clear hc hcs hS hnc hys hyc' hyr hy HYm hlt
          by_cases h1 : 100 < S.size
          · have p1 : decide ((100 : Int) < (S.size : Int)) = true := decide_eq_true (by omega)
            have HRf := Lib.hid (HAt.out (by rw [HGd.out, decide_eq_true h1]; simp))
            clear HR4 h1
            go_wp2_with fail
            go_ret
            exact ⟨by rw [HRf.out]; rfl, (HW.out _ hB.out).alloc (HW.out _ hB.out).size _⟩
          have p1 : decide ((100 : Int) < (S.size : Int)) = false := decide_eq_false (by omega)
          by_cases h5 : 50 < nc
          · have p2 : decide ((50 : Int) < (nc : Int)) = true := decide_eq_true (by omega)
            have HRf := Lib.hid (HAt.out (by rw [HGd.out, decide_eq_true h5]; simp))
            clear HR4 h1 h5
            go_wp2_with fail
            go_ret
            exact ⟨by rw [HRf.out]; rfl, (HW.out _ hB.out).alloc (HW.out _ hB.out).size _⟩
          have p2 : decide ((50 : Int) < (nc : Int)) = false := decide_eq_false (by omega)
          have HGd2 : Hid (gEf pf[kk] = yl.any gOp) := Lib.hid (by rw [HGd.out, decide_eq_false h1, decide_eq_false h5]; simp)
          clear HGd h1 h5
          go_wp2_with fail
          obtain ⟨Wd, hWd⟩ : ∃ Wd, wr.alloc (.cells #[.string S, .slice E1 nc e1] 57) = Wd := ⟨_, rfl⟩
          have hBd : Below wr.heap.size wr Wd := by rw [← hWd]; exact (Below.refl _ _).alloc (Nat.le_refl _) _
          have HBd := Lib.hid (hB.out.trans (hBd.mono hB.out.size))
          have hy0 : Wd.heap[wr.heap.size]? = some (.cells #[.string S, .slice E1 nc e1] 57 (0, 0)) := by rw [← hWd]; exact heap_alloc_new _ _
          have HYd : Hid (∀ w3, Below Wd.heap.size Wd w3 → w3.heap[wr.heap.size]? = some (.cells #[.string S, .slice E1 nc e1] 57 (0, 0))) := Lib.hid (fun w3 hb => (hb.block _ (Array.getElem?_eq_some_iff.1 hy0).1).trans hy0)
          have HRd2 : Hid (RowAt (fun _ => True) Wd E1 14 (OpC (fun _ => True) Wd) yl) := Lib.hid (HRw.out.below hBd (fun _ _ h => h.keepC (KC.of_same hBd)))
          rw [hWd]
          obtain ⟨db, hdb⟩ : ∃ db, db = wr.heap.size := ⟨_, rfl⟩
          rw [← hdb] at HYd ⊢
          clear hWd hBd hy0 q0 q1 x0 x1 x2 x3 x4 x5 x6 x7 x8 x9 hdb HRw hB
          go_loopw [8] (fun i w3 => ∃ jj : Nat, jj ≤ nc ∧ i = .int .i64 (jj : Int) ∧ Hid (Below Wd.heap.size Wd w3) ∧ Hid ((yl.take jj).any gOp = false)) (fun i _ => nc - (intOf i).toNat)
          case atStart => exact ⟨0, Nat.zero_le _, rfl, Lib.hid (Below.refl _ _), Lib.hid (by simp)⟩
          case round =>
            obtain ⟨jj, hj, rfl, hBj, hnj⟩ := hrel
            have j0 : (0 : Int) ≤ (jj : Int) := by omega
            have z0 := cell_of_row _ db 0 _ _ (0, 0) (HYd.out _ hBj.out)
            have z1 := cell_of_row _ db 1 _ _ (0, 0) (HYd.out _ hBj.out)
            simp only [List.getElem?_toArray, List.getElem?_cons_zero, List.getElem?_cons_succ] at z0 z1
            by_cases hjl : jj < nc
            · have hjl' : jj < yl.length := by rw [← HNc.out]; exact hjl
              have j1 : (jj : Int) < (nc : Int) := by omega
              obtain ⟨eb, eo, rfl, _, helt, hec⟩ := (HRd2.out.below hBj.out (fun _ _ h => h.keepC (KC.of_same hBj.out))) (List.ne_nil_of_length_pos (by omega))
              obtain ⟨cs, _, hcs, hr⟩ := hec jj _ (List.getElem?_eq_getElem hjl')
              obtain ⟨v, hv⟩ : ∃ v, v = yl[jj] := ⟨_, rfl⟩
              have HVm : Hid (v = yl[jj]) := Lib.hid hv
              rw [← hv] at hr
              obtain ⟨vs, va, vb, vo⟩ := v
              obtain ⟨c1, c2, rfl, hvs, hva, hvb⟩ := hr
              obtain ⟨k1, n1', s1, t1, A01, n01, m01, A11, n11, m11, rfl⟩ := hva.shape2
              obtain ⟨k2, n2', s2, t2, A02, n02, m02, A12, n12, m12, rfl⟩ := hvb.shape2
              dsimp only at hcs hvs hva hvb
              have q0 := hcs 0 _ rfl
              have q1 := hcs 1 _ rfl
              have q2 := hcs 2 _ rfl
              have q3 := hcs 3 _ rfl
              have q4 := hcs 4 _ rfl
              have q5 := hcs 5 _ rfl
              have q6 := hcs 6 _ rfl
              have q7 := hcs 7 _ rfl
              have q8 := hcs 8 _ rfl
              have q9 := hcs 9 _ rfl
              have q10 := hcs 10 _ rfl
              have q11 := hcs 11 _ rfl
              have q12 := hcs 12 _ rfl
              have q13 := hcs 13 _ rfl
              rw [Nat.add_zero] at q0
              have HG1 := Lib.hid (fun w' (hb : Below wr.heap.size wr w') => GreatType_any va _ _ _ _ _ _ w' (hva.keepC (KC.of_same hb)))
              have HG2 := Lib.hid (fun w' (hb : Below wr.heap.size wr w') => GreatType_any vb _ _ _ _ _ _ w' (hvb.keepC (KC.of_same hb)))
              have HQQ : Hid (∀ w', Below wr.heap.size wr w' → CellsAt w' eb (eo + jj * 14) (.string (strB vs) :: ([.int .i64 k1, .int .i64 n1', .string s1, .slice A01 n01 m01, .slice A11 n11 m11, .int .i64 t1] ++ ([.int .i64 k2, .int .i64 n2', .string s2, .slice A02 n02 m02, .slice A12 n12 m12, .int .i64 t2] ++ [.bool vo])))) := Lib.hid (fun w' hb => hcs.keep (P := fun _ => True) trivial helt (Same.of_below hb))
              obtain ⟨X, hX⟩ : ∃ S, S = strB vs := ⟨_, rfl⟩
              have HX2 : Hid (X.size = vs.length) := Lib.hid (by rw [hX, strB_size])
              have HXz : (X.size : Int) ≤ 9223372036854775807 := by have := HX2.out; have h2 : vs.length ≤ maxLen := hvs; unfold maxLen at h2; omega
              obtain ⟨ga, hga⟩ : ∃ g, g = greatT va := ⟨_, rfl⟩
              obtain ⟨gb, hgb⟩ : ∃ g, g = greatT vb := ⟨_, rfl⟩
              have HGc : Hid (gOp yl[jj] = (decide (100 < X.size) || ga || gb)) := Lib.hid (by rw [← HVm.out, HX2.out, hga, hgb]; rfl)
              have HAc : Hid (gOp yl[jj] = true → R = true) := Lib.hid (fun h => HAt.out (by rw [HGd2.out]; exact any_of_at hjl' h))
              have HTj : Hid (gOp yl[jj] = false → (yl.take (jj + 1)).any gOp = false) := Lib.hid (any_take_snoc hjl' hnj.out)
              have HBo := Lib.hid (HBd.out.trans (hBj.out.mono HBd.out.size))
              rw [← hga] at HG1
              rw [← hgb] at HG2
              rw [← hX] at q0 HQQ
              clear hec hcs hX hga hgb hvs hva hvb hv HVm helt
              by_cases h1 : 100 < X.size
              · have p1 : decide ((100 : Int) < (X.size : Int)) = true := decide_eq_true (by omega)
                have HRf := Lib.hid (HAc.out (by rw [HGc.out, decide_eq_true h1]; simp))
                clear HR4 h1
                go_wp2_with fail
                go_ret
                exact ⟨by rw [HRf.out]; rfl, HW.out _ HBo.out⟩
              have p1 : decide ((100 : Int) < (X.size : Int)) = false := decide_eq_false (by omega)
              have HGc1 : Hid (gOp yl[jj] = (ga || gb)) := Lib.hid (by rw [HGc.out, decide_eq_false h1]; simp)
              clear HGc h1
              cases ga
              case true =>
                have HRf := Lib.hid (HAc.out (by rw [HGc1.out]; simp))
                clear HR4
                go_wp2_with fail
                refine (HG1.out _ (Below.refl _ _)).mono ?_
                rintro e w4 ⟨rfl, hb⟩
                have HB4 := Lib.hid (HBo.out.trans (hb.mono HBo.out.size))
                clear hb
                go_wp2_with fail
                go_ret
                exact ⟨by rw [HRf.out]; rfl, HW.out _ HB4.out⟩
              go_wp2_with fail
              refine (HG1.out _ (Below.refl _ _)).mono ?_
              rintro e w4 ⟨rfl, hb⟩
              have HBn := Lib.hid hb
              have HB4 := Lib.hid (hBj.out.trans (hb.mono hBj.out.size))
              have HBo4 := Lib.hid (HBo.out.trans (hb.mono HBo.out.size))
              clear hb q0 q1 q2 q3 q4 q5 q6 q7 q8 q9 q10 q11 q12 q13 z0 z1
              have z0 := cell_of_row _ db 0 _ _ (0, 0) (HYd.out _ HB4.out)
              have z1 := cell_of_row _ db 1 _ _ (0, 0) (HYd.out _ HB4.out)
              simp only [List.getElem?_toArray, List.getElem?_cons_zero, List.getElem?_cons_succ] at z0 z1
              have hcs := HQQ.out _ HBn.out
              have q0 := hcs 0 _ rfl
              have q1 := hcs 1 _ rfl
              have q2 := hcs 2 _ rfl
              have q3 := hcs 3 _ rfl
              have q4 := hcs 4 _ rfl
              have q5 := hcs 5 _ rfl
              have q6 := hcs 6 _ rfl
              have q7 := hcs 7 _ rfl
              have q8 := hcs 8 _ rfl
              have q9 := hcs 9 _ rfl
              have q10 := hcs 10 _ rfl
              have q11 := hcs 11 _ rfl
              have q12 := hcs 12 _ rfl
              have q13 := hcs 13 _ rfl
              rw [Nat.add_zero] at q0
              clear hcs
              cases gb
              case true =>
                have HRf := Lib.hid (HAc.out (by rw [HGc1.out]; simp))
                clear HR4
                go_wp2_with fail
                refine (HG2.out _ HBn.out).mono ?_
                rintro e w5 ⟨rfl, hb⟩
                have HB5 := Lib.hid (HBo4.out.trans (hb.mono HBo4.out.size))
                clear hb
                go_wp2_with fail
                go_ret
                exact ⟨by rw [HRf.out]; rfl, HW.out _ HB5.out⟩
              have HTn := Lib.hid (HTj.out (by rw [HGc1.out]; simp))
              go_wp2_with fail
              refine (HG2.out _ HBn.out).mono ?_
              rintro e w5 ⟨rfl, hb⟩
              have HB5 := Lib.hid (HB4.out.trans (hb.mono HB4.out.size))
              clear hb q0 q1 q2 q3 q4 q5 q6 q7 q8 q9 q10 q11 q12 q13 z0 z1 HG1 HG2
              go_wp2_with fail
              go_roundw
              case rel => exact ⟨jj + 1, by omega, by go_num, HB5, HTn⟩
              case measure => simp [intOf]; omega
            · obtain rfl : jj = nc := by omega
              have HTn := Lib.hid (HTk.out (by rw [HGd2.out]; have := hnj.out; rwa [HNc.out, List.take_length] at this))
              have HBo := Lib.hid (HBd.out.trans (hBj.out.mono HBd.out.size))
              go_wp2_with fail
              go_roundg (nf - (kk + 1))
              case rel => exact ⟨kk + 1, Lib.hid (by omega), by go_num, HBo, HTn⟩
              case measure => have := HGk.out; omega
        · obtain rfl : kk = nf := by omega
          have HR5 : Hid (R = pg.any gDf) := Lib.hid (by
            rw [HR4.out]
            have := hno.out
            rw [HNf.out, List.take_length] at this
            rw [this]; simp)
          clear HR4
          go_wp2_with fail
          clear x0 x1 x2 x3 x4 x5 x6 x7 x8 x9
          go_loopw [9] (fun i wr => ∃ kk : Nat, kk ≤ ng ∧ i = .int .i64 (kk : Int) ∧ Hid (Below W1.heap.size W1 wr) ∧ Hid ((pg.take kk).any gDf = false)) (fun i _ => ng - (intOf i).toNat)
          case atStart => exact ⟨0, Nat.zero_le _, rfl, hB, Lib.hid (by simp)⟩
          case round =>
            clear hB hno HGk
            obtain ⟨kk, hk, rfl, hB, hno⟩ := hrel
            have i0 : (0 : Int) ≤ (kk : Int) := by omega
            have x0 := cell_of_row wr w.heap.size 0 _ _ (0, 0) (HX.out _ hB.out)
            have x1 := cell_of_row wr w.heap.size 1 _ _ (0, 0) (HX.out _ hB.out)
            have x2 := cell_of_row wr w.heap.size 2 _ _ (0, 0) (HX.out _ hB.out)
            have x3 := cell_of_row wr w.heap.size 3 _ _ (0, 0) (HX.out _ hB.out)
            have x4 := cell_of_row wr w.heap.size 4 _ _ (0, 0) (HX.out _ hB.out)
            have x5 := cell_of_row wr w.heap.size 5 _ _ (0, 0) (HX.out _ hB.out)
            have x6 := cell_of_row wr w.heap.size 6 _ _ (0, 0) (HX.out _ hB.out)
            have x7 := cell_of_row wr w.heap.size 7 _ _ (0, 0) (HX.out _ hB.out)
            have x8 := cell_of_row wr w.heap.size 8 _ _ (0, 0) (HX.out _ hB.out)
            have x9 := cell_of_row wr w.heap.size 9 _ _ (0, 0) (HX.out _ hB.out)
            simp only [List.getElem?_toArray, List.getElem?_cons_zero, List.getElem?_cons_succ] at x0 x1 x2 x3 x4 x5 x6 x7 x8 x9
            by_cases hkl : kk < ng
            · have hkl' : kk < pg.length := by rw [← HNg.out]; exact hkl
              have i1 : (kk : Int) < (ng : Int) := by omega
              obtain ⟨zb, zo, rfl, _, hlt, hc⟩ := (HG.out.below (HW.out _ hB.out) (fun _ _ h => h.keepC (KC.of_same (HW.out _ hB.out)))) (List.ne_nil_of_length_pos (by omega))
              obtain ⟨cs, _, hcs, hr⟩ := hc kk _ (List.getElem?_eq_getElem hkl')
              obtain ⟨y, hy⟩ : ∃ y, y = pg[kk] := ⟨_, rfl⟩
              have HYm : Hid (y = pg[kk]) := Lib.hid hy
              rw [← hy] at hr
              obtain ⟨ys, ye⟩ := y
              obtain ⟨c7, rfl, hys, hye⟩ := hr
              obtain ⟨k1, n1', s1, t1, A01, n01, m01, A11, n11, m11, A21, n21, m21, rfl⟩ := hye.shape
              dsimp only at hcs hys hye
              have q0 := hcs 0 _ rfl
              have q1 := hcs 1 _ rfl
              have q2 := hcs 2 _ rfl
              have q3 := hcs 3 _ rfl
              have q4 := hcs 4 _ rfl
              have q5 := hcs 5 _ rfl
              have q6 := hcs 6 _ rfl
              have q7 := hcs 7 _ rfl
              rw [Nat.add_zero] at q0
              have HG1 := Lib.hid (Great_any (fun _ => True) ye _ _ _ _ _ _ _ wr hye)
              obtain ⟨S, hS⟩ : ∃ S, S = strB ys := ⟨_, rfl⟩
              have HS : Hid (S.size = ys.length) := Lib.hid (by rw [hS, strB_size])
              have HSz : (S.size : Int) ≤ 9223372036854775807 := by have := HS.out; have h2 : ys.length ≤ maxLen := hys; unfold maxLen at h2; omega
              obtain ⟨ga, hga⟩ : ∃ g, g = great ye := ⟨_, rfl⟩
              have HGd : Hid (gDf pg[kk] = (decide (100 < S.size) || ga)) := Lib.hid (by rw [← HYm.out, HS.out, hga]; rfl)
              have HAt : Hid (gDf pg[kk] = true → R = true) := Lib.hid (fun h => by rw [HR5.out, any_of_at hkl' h])
              have HTk : Hid (gDf pg[kk] = false → (pg.take (kk + 1)).any gDf = false) := Lib.hid (any_take_snoc hkl' hno.out)
              rw [← hga] at HG1
              rw [← hS] at q0
              clear hc hcs hS hga hys hye hy HYm hlt
              by_cases h1 : 100 < S.size
              · have p1 : decide ((100 : Int) < (S.size : Int)) = true := decide_eq_true (by omega)
                have HRf := Lib.hid (HAt.out (by rw [HGd.out, decide_eq_true h1]; simp))
                clear HR5 h1
                go_wp2_with fail
                go_ret
                exact ⟨by rw [HRf.out]; rfl, HW.out _ hB.out⟩
              have p1 : decide ((100 : Int) < (S.size : Int)) = false := decide_eq_false (by omega)
              have HGd2 : Hid (gDf pg[kk] = ga) := Lib.hid (by rw [HGd.out, decide_eq_false h1]; simp)
              clear HGd h1
              cases ga
              case true =>
                have HRf := Lib.hid (HAt.out HGd2.out)
                clear HR5
                go_wp2_with fail
                refine HG1.out.mono ?_
                rintro e w4 ⟨rfl, hb⟩
                have HB4 := Lib.hid (hB.out.trans (hb.mono hB.out.size))
                clear hb
                go_wp2_with fail
                go_ret
                exact ⟨by rw [HRf.out]; rfl, HW.out _ HB4.out⟩
              have HTn := Lib.hid (HTk.out HGd2.out)
              go_wp2_with fail
              refine HG1.out.mono ?_
              rintro e w4 ⟨rfl, hb⟩
              have HB4 := Lib.hid (hB.out.trans (hb.mono hB.out.size))
              clear hb x0 x1 x2 x3 x4 x5 x6 x7 x8 x9 q0 q1 q2 q3 q4 q5 q6 q7 HG1
              go_wp2_with fail
              go_roundw
              case rel => exact ⟨kk + 1, by omega, by go_num, HB4, HTn⟩
              case measure => simp [intOf]; omega
            · obtain rfl : kk = ng := by omega
              have HRf : Hid (R = false) := Lib.hid (by rw [HR5.out]; have := hno.out; rwa [HNg.out, List.take_length] at this)
              go_wp2_with fail
              go_ret
              exact ⟨by rw [HRf.out]; rfl, HW.out _ hB.out⟩
end Go.Proofs.YtbmicnajedeenaaGreatDoor
