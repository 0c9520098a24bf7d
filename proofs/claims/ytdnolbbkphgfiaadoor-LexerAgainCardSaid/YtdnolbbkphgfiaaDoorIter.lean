/- tokens: the iterator over the tokens of a source. -/
import Derived.RangeFuncNested
import Derived.RangeFuncBound
import Derived.RangeFuncCalls
import Derived.RangeFuncLeaves
import Derived.RangeFuncBox
import Derived.Shelf.Abstract
import Derived.Test.YtdnolbbkphgfiaaDoorFirst
import Derived.OwnWalkIn
import Derived.TacticsInMore
import Derived.LoopNIn
import Derived.LoopIn
import Derived.Maps.AppendAt
namespace Go.Proofs.YtdnolbbkphgfiaaDoor
open Go.RowKit Go.Shelf

attribute [local go_sem] Oper.semAt_some

def tkArg (x : Tk) : Value := .agg #[.int .i64 x.kind, .string (strB x.s), .int .i64 x.n, .int .i64 (x.pos : Int)]
/-- what is said of the rounds holds whatever the iterator does to its source, and to new memory -/
def Abd (bs : Nat) (J : List Tk → World → Prop) : Prop := ∀ pre W W', J pre W → W.grownBy W' (some bs) → J pre W'
/-- what a round keeps -/
def Kp (n0 : Nat) (W W' : World) : Prop := Below n0 W W' ∧ ∀ (k : Nat) (cs : Array Value) (t : TypeId) (fr : Nat × Nat), W.heap[k]? = some (Obj.cells cs t fr) → t ≠ 22 → t ≠ 43 → W'.heap[k]? = W.heap[k]?

/-- where a source stands -/
def posOf (b : Nat) (w : World) : Nat := (intOf ((w.cell? ⟨b, 1, none⟩).getD undef)).toNat
theorem posOf_src {w : World} {b : Nat} {s : ByteArray} {p q : Int} (h : Src w b s p q) : posOf b w = p.toNat := by unfold posOf; rw [h.c1]; rfl

theorem grown_drew (w : World) (row : Option Nat) : w.grownBy w.drew row := ⟨rfl, rfl, rfl, Nat.le_refl _, fun _ _ _ => rfl⟩

theorem noGoto_n {Q : Exit → Act → World → Prop} {a : Act} {w : World} (h : Q .normal a w) : Exit.noGoto Q .normal a w := by unfold Exit.noGoto; exact h
theorem fin_src {w : World} {b : Nat} {s : ByteArray} {p : Nat} {q : Int} (h : Src w b s p q) : Src w b s (posOf b w) q := by
  rw [posOf_src h, Int.toNat_natCast]; exact h

set_option maxRecDepth 100000 in
set_option maxHeartbeats 1000000 in
theorem tokens_in (n l b n0 : Nat) (s : ByteArray) (xs : List Tk) (fin : Nat) (q0 : Int) (J : List Tk → World → Prop) (hJ : Abd b J) (hn : 3 ≤ n)
    (hY : ∀ pre x W, J pre W → pre ++ [x] <+: xs → YieldAt Fence.wide (n - 1) Tryd.prog l #[tkArg x] W fun e W' => e = .returned (.bool true) ∧ J (pre ++ [x]) W' ∧ Kp n0 W W')
    (W : World) (hS : Src W b s 0 q0) (hE : Syms W) (hb0 : b ≠ 0) (hn0 : 0 < n0) (hs : s.size ≤ 30000) (hx : lexF (s.size + 1) 0 s.data.toList = (xs, fin)) (h0 : J [] W) :
    CallsIn Fence.wide n Tryd.prog 37 #[.pointer (some ⟨b, 0, none⟩), .func (.yield l) #[] #[]] W fun e W' => (∃ v, e = .returned v) ∧ J xs W' ∧ Src W' b s (posOf b W') (fin : Int) := by
  refine callsIn_of_wp Tryd.func37 rfl trivial ?_ rfl
  simp only [Tryd.ntmps37, List.size_toArray, List.length_cons, List.length_nil, Nat.reduceAdd, Nat.reduceSub, Array.replicate_succ, Array.replicate_zero, List.push_toArray, List.append_toArray, List.nil_append, List.cons_append]
  have HS := Lib.hid hS
  have HE := Lib.hid hE
  have HX := Lib.hid hx
  have HY := Lib.hid hY
  have HJ := Lib.hid hJ
  have HJ0 := Lib.hid h0
  clear hS hE hx hY hJ h0
  refine wpIn_wide.2 (wp_scope_straight ((wpIn_wide (n := n)).1 ?_))
  gi_wp2
  gi_region
  gi_wp2
  refine wpIn_label ?_
  have HS0 : Hid (Src ((W.alloc (.cells #[.func (.func 53) #[.pointer (some ⟨b, 0, none⟩)] #[], .func (.func 54) #[.pointer (some ⟨b, 0, none⟩)] #[]] 74)).drew) b s 0 q0) := HS.out.kept (grown_trans (World.grownBy_alloc W _ none) (grown_drew _ none)) (by simp)
  have HW0 : Hid (Ways ((W.alloc (.cells #[.func (.func 53) #[.pointer (some ⟨b, 0, none⟩)] #[], .func (.func 54) #[.pointer (some ⟨b, 0, none⟩)] #[]] 74)).drew) W.heap.size b) := heap_alloc_new W _
  have HE0 : Hid (Syms ((W.alloc (.cells #[.func (.func 53) #[.pointer (some ⟨b, 0, none⟩)] #[], .func (.func 54) #[.pointer (some ⟨b, 0, none⟩)] #[]] 74)).drew)) := HE.out.grown (grown_trans (World.grownBy_alloc W _ none) (grown_drew _ none)) (by simp)
  have HJ1 : Hid (J [] ((W.alloc (.cells #[.func (.func 53) #[.pointer (some ⟨b, 0, none⟩)] #[], .func (.func 54) #[.pointer (some ⟨b, 0, none⟩)] #[]] 74)).drew)) := HJ.out [] W _ HJ0.out (grown_trans (World.grownBy_alloc W _ (some b)) (grown_drew _ _))
  clear HS HE HJ0
  obtain ⟨g, hg⟩ : ∃ g, g = W.heap.size := ⟨_, rfl⟩
  gi_wp2
  gi_loopw [] (fun wr => ∃ (pre rest : List Tk) (p f : Nat) (q : Int), Hid (xs = pre ++ rest) ∧ Hid (Src wr b s p q) ∧ p ≤ s.size ∧ s.size + 1 ≤ f + p ∧ Hid (lexF f p (s.data.toList.drop p) = (rest, fin)) ∧ Hid (Ways wr W.heap.size b) ∧ Hid (Syms wr) ∧ Hid (J pre wr)) (fun wr => s.size - posOf b wr)
  case atStart => exact ⟨[], xs, 0, s.size + 1, q0, rfl, HS0, by omega, by omega, HX, HW0, HE0, HJ1⟩
  case round =>
    clear HS0 HW0 HE0 HJ1 HX
    obtain ⟨pre, rest, p, f, q, HX, HS, hp, hf, HL, HW, HE, HJp⟩ := hrel
    obtain ⟨f, rfl⟩ : ∃ f', f = f' + 1 := ⟨f - 1, by omega⟩
    have h1n : 1 ≤ n := by omega
    obtain ⟨o, ho⟩ : ∃ o, o = p + spLen false (s.data.toList.drop p) := ⟨_, rfl⟩
    have hos : o ≤ s.size := by
      have := spLen_le false (s.data.toList.drop p)
      rw [List.length_drop, len_data] at this; omega
    have hpl : o + (partOf (s.data.toList.drop o)).length ≤ s.size := by
      have := partOf_le (s.data.toList.drop o)
      rw [List.length_drop, len_data] at this; omega
    have hpo : p ≤ o := by omega
    have HSP : Hid (Calls Tryd.prog 52 #[.pointer (some ⟨b, 0, none⟩)] wr fun e w' => (∃ v, e = .returned (.string v)) ∧ Moved wr w' b s (o : Int) q) := (space_any b s p q wr HS.out hs hp).mono fun e w' h => ⟨⟨_, h.1⟩, by rw [ho]; exact h.2⟩
    have HFO : Hid (∀ w, Src w b s o o → Syms w → Ways w W.heap.size b → Calls Tryd.prog 56 #[.slice (some ⟨W.heap.size, 0, none⟩) 2 2] w fun e w' => e = .returned (.string (strB (partOf (s.data.toList.drop o)))) ∧ Moved w w' b s ((o + (partOf (s.data.toList.drop o)).length : Nat) : Int) o) := fun w h1 h2 h3 => firstOf_any _ b s o o w h1 h2 hb0 h3 hs hos
    have HLS := Lib.hid (fun (h : tokS (partOf (s.data.toList.drop o)) = none) => (HL.out.symm.trans (lexF_none ho h) : (rest, fin) = ([], o)))
    have HLT := Lib.hid (fun (k n : Int) (t : List UInt8) (h : tokS (partOf (s.data.toList.drop o)) = some (k, t, n)) => (HL.out.symm.trans (lexF_some ho h)))
    have HPP := Lib.hid (fun (x : Int × List UInt8 × Int) (h : tokS (partOf (s.data.toList.drop o)) = some x) => part_pos h)
    clear HL
    have HO := Lib.hid ho
    clear ho
    obtain ⟨part, hpart⟩ : ∃ part, part = partOf (s.data.toList.drop o) := ⟨_, rfl⟩
    rw [← hpart] at hpl HFO HLS HLT HPP
    clear hpart
    have hps : (strB part).size ≤ maxLen := by rw [← len_data, data_strB]; unfold maxLen; omega
    have hM0 := posOf_src HS.out
    have HM0 := Lib.hid hM0
    clear hM0
    cases htk : tokS part with
    | none =>
      have HT : Hid (∀ w, Syms w → Calls Tryd.prog 55 #[.string (strB part)] w fun e w' => e = .returned (.tuple #[.agg #[.int .i64 0, .string ⟨#[]⟩, .int .i64 0, .int .i64 0], .bool false]) ∧ Below w.heap.size w w') := fun w h => (tokenOf_any _ w hps h).mono fun e w' h => ⟨by rw [h.1, data_strB, htk]; rfl, h.2⟩
      have hend := HLS.out htk
      clear HLS HLT HPP hps htk
      gi_wp2_with (first
        | (refine ⟨trivial, ?_⟩; gi_at_call 52; refine (callsIn_wide.2 HSP.out).mono ?_; rintro e w2 ⟨⟨v, rfl⟩, HM2⟩; have HS2 := Lib.hid HM2.1; have HG2 := Lib.hid HM2.2; clear HM2; have c1 := HS2.out.c1; have f2 := HS2.out.fr 2; have d2 := HS2.out.c2)
        | (refine ⟨trivial, ?_⟩; gi_at_call 56; refine (callsIn_wide.2 (HFO.out _ (HS2.out.set2 o) (HE.out.grown (grown_trans HG2.out (grown_set _ ⟨b, 2, none⟩ _)) (by simp; omega)) (HW.out.kept (grown_trans HG2.out (grown_set _ ⟨b, 2, none⟩ _)) (by simp [HW.out.ne HS.out])))).mono ?_; rintro e w3 ⟨rfl, HM3⟩; have HS3 := Lib.hid HM3.1; have HG3 := Lib.hid (grown_trans (grown_trans HG2.out (grown_set _ ⟨b, 2, none⟩ (.int .i64 (o : Int)))) HM3.2); clear HM3)
        | (refine ⟨trivial, ?_⟩; gi_at_call 55; refine (callsIn_wide.2 (HT.out _ (HE.out.grown HG3.out (by simp; omega)))).mono ?_; rintro e w5 ⟨rfl, hb5⟩; have HG5 := Lib.hid (grown_trans HG3.out (grown_below hb5 _)); have HS5 := Lib.hid (HS3.out.below hb5 HS3.out.lt); clear hb5; have g2 := HS5.out.c2; have hl5 := HS5.out.lt))
      refine noGoto_n ?_
      go_end0
      obtain ⟨hr, hfn⟩ := Prod.mk.inj hend
      refine ⟨⟨_, rfl⟩, ?_, ?_⟩
      · rw [HX.out, hr, List.append_nil]
        exact HJ.out pre _ _ HJp.out (grown_trans HG5.out (World.grownBy_alloc w5 _ (some b)))
      · rw [hfn]
        exact fin_src (HS5.out.kept (World.grownBy_alloc w5 _ none) (by simp))
    | some x =>
      obtain ⟨k, t, m⟩ := x
      have HT : Hid (∀ w, Syms w → Calls Tryd.prog 55 #[.string (strB part)] w fun e w' => e = .returned (.tuple #[.agg #[.int .i64 k, .string (strB t), .int .i64 m, .int .i64 0], .bool true]) ∧ Below w.heap.size w w') := fun w h => (tokenOf_any _ w hps h).mono fun e w' h => ⟨by rw [h.1, data_strB, htk]; rfl, h.2⟩
      have hend := HLT.out k m t htk
      have hpos := HPP.out _ htk
      obtain ⟨hr, hfn⟩ := Prod.mk.inj hend
      obtain ⟨rest', hrest⟩ : ∃ r, r = (lexF f (o + part.length) (s.data.toList.drop (o + part.length))).1 := ⟨_, rfl⟩
      rw [← hrest] at hr
      have HL2 : Hid (lexF f (o + part.length) (s.data.toList.drop (o + part.length)) = (rest', fin)) := by
        show _ = _; rw [hrest, hfn]
      have HX2 : Hid (xs = (pre ++ [⟨k, t, m, o⟩]) ++ rest') := by show _ = _; rw [HX.out, hr, List.append_assoc]; rfl
      have HPre : Hid (pre ++ [⟨k, t, m, o⟩] <+: xs) := ⟨rest', HX2.out.symm⟩
      clear HLS HLT HPP hps htk hend hr hfn hrest HX
      gi_wp2_with (first
        | (refine ⟨trivial, ?_⟩; gi_at_call 52; refine (callsIn_wide.2 HSP.out).mono ?_; rintro e w2 ⟨⟨v, rfl⟩, HM2⟩; have HS2 := Lib.hid HM2.1; have HG2 := Lib.hid HM2.2; clear HM2; have c1 := HS2.out.c1; have f2 := HS2.out.fr 2; have d2 := HS2.out.c2)
        | (refine ⟨trivial, ?_⟩; gi_at_call 56; refine (callsIn_wide.2 (HFO.out _ (HS2.out.set2 o) (HE.out.grown (grown_trans HG2.out (grown_set _ ⟨b, 2, none⟩ _)) (by simp; omega)) (HW.out.kept (grown_trans HG2.out (grown_set _ ⟨b, 2, none⟩ _)) (by simp [HW.out.ne HS.out])))).mono ?_; rintro e w3 ⟨rfl, HM3⟩; have HS3 := Lib.hid HM3.1; have HG3 := Lib.hid (grown_trans (grown_trans HG2.out (grown_set _ ⟨b, 2, none⟩ (.int .i64 (o : Int)))) HM3.2); clear HM3)
        | (refine ⟨trivial, ?_⟩; gi_at_call 55; refine (callsIn_wide.2 (HT.out _ (HE.out.grown HG3.out (by simp; omega)))).mono ?_; rintro e w5 ⟨rfl, hb5⟩; have HG5 := Lib.hid (grown_trans HG3.out (grown_below hb5 _)); have HS5 := Lib.hid (HS3.out.below hb5 HS3.out.lt); clear hb5; have g2 := HS5.out.c2; have hl5 := HS5.out.lt; have HJ5 : Hid (J pre (w5.alloc (Obj.cells #[.int .i64 k, .string (strB t), .int .i64 m, .int .i64 (o : Int)] 43))) := HJ.out pre _ _ HJp.out (grown_trans HG5.out (World.grownBy_alloc w5 _ (some b))); obtain ⟨fn, tmps, assign, body, hy0, hR⟩ := HY.out pre ⟨k, t, m, o⟩ _ HJ5.out HPre.out; have hy : (Instr.yield l #[.agg #[.int .i64 k, .string (strB t), .int .i64 m, .int .i64 (o : Int)]]).run Tryd.prog (w5.alloc (Obj.cells #[.int .i64 k, .string (strB t), .int .i64 m, .int .i64 (o : Int)] 43)) = _ := hy0; clear hy0; have HR := Lib.hid hR; clear hR))
      refine HR.out.mono ?_
      rintro e W3 ⟨rfl, hJ3, hK3⟩
      have HJ3 := Lib.hid hJ3
      have HSa : Hid (Src (w5.alloc (Obj.cells #[.int .i64 k, .string (strB t), .int .i64 m, .int .i64 (o : Int)] 43)) b s ((o + part.length : Nat) : Int) o) := HS5.out.kept (World.grownBy_alloc w5 _ none) (by simp)
      have HWa : Hid (Ways (w5.alloc (Obj.cells #[.int .i64 k, .string (strB t), .int .i64 m, .int .i64 (o : Int)] 43)) W.heap.size b) := HW.out.kept (grown_trans HG5.out (World.grownBy_alloc w5 _ (some b))) (by simp [HW.out.ne HS.out])
      have HEa : Hid (Syms (w5.alloc (Obj.cells #[.int .i64 k, .string (strB t), .int .i64 m, .int .i64 (o : Int)] 43))) := HE.out.grown (grown_trans HG5.out (World.grownBy_alloc w5 _ (some b))) (by simp; omega)
      have HS3b : Hid (Src W3 b s ((o + part.length : Nat) : Int) o) := (hK3.2 b _ 55 (0, 0) HSa.out (by decide) (by decide)).trans HSa.out
      have HW3b : Hid (Ways W3 W.heap.size b) := (hK3.2 _ _ 74 (0, 0) HWa.out (by decide) (by decide)).trans HWa.out
      have HE3b : Hid (Syms W3) := HEa.out.below hK3.1 hn0
      clear hJ3 hK3 HSa HWa HEa
      gi_wp2
      go_roundw
      case rel => exact ⟨pre ++ [⟨k, t, m, o⟩], rest', o + part.length, f, o, HX2, HS3b, hpl, by omega, HL2, HW3b, HE3b, HJ3⟩
      case measure =>
        have e1 := posOf_src HS3b.out
        have e2 := HM0.out
        rw [Int.toNat_natCast] at e1 e2
        rw [e1, e2]
        omega
end Go.Proofs.YtdnolbbkphgfiaaDoor
