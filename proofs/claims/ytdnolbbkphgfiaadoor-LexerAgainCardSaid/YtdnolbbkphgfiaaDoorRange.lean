/- The statement that ranges over the tokens of a source. -/
import Derived.Test.YtdnolbbkphgfiaaDoorIter
namespace Go.Proofs.YtdnolbbkphgfiaaDoor
open Go.RowKit Go.Shelf

def tkCells (x : Tk) : List Value := [.int .i64 x.kind, .string (strB x.s), .int .i64 x.n, .int .i64 (x.pos : Int)]
def flat (l : List Tk) : List Value := l.flatMap tkCells
theorem flat_length (l : List Tk) : (flat l).length = l.length * 4 := by
  unfold flat
  induction l with
  | nil => rfl
  | cons x r ih => simp [tkCells, ih]; omega
theorem flat_snoc (l : List Tk) (x : Tk) : flat (l ++ [x]) = flat l ++ tkCells x := by simp [flat]

theorem Kp.refl (n0 : Nat) (W : World) : Kp n0 W W := ⟨Below.refl _ _, fun _ _ _ _ _ _ _ => rfl⟩
theorem Kp.trans {n0 : Nat} {A B C : World} (h : Kp n0 A B) (k : Kp n0 B C) : Kp n0 A C :=
  ⟨h.1.trans k.1, fun i cs t fr hi h1 h2 => by
    have e := h.2 i cs t fr hi h1 h2
    exact (k.2 i cs t fr (e.trans hi) h1 h2).trans e⟩
theorem Kp.alloc {n0 : Nat} (W : World) (o : Obj) (h : n0 ≤ W.heap.size) : Kp n0 W (W.alloc o) :=
  ⟨(Below.refl _ _).alloc h o, fun i _ _ _ hi _ _ => Below.heap_alloc W o i (Array.getElem?_eq_some_iff.1 hi).1⟩
theorem Kp.putObj {n0 : Nat} {W : World} {l : Nat} {o : Obj} (o' : Obj) (h : n0 ≤ l) (hl : W.heap[l]? = some o) (ho : o.isCells = false) : Kp n0 W (W.putObj l o') :=
  ⟨(Below.refl n0 W).grown (grownBy_putObj' W l o') (by have := (Array.getElem?_eq_some_iff.1 hl).1; omega) (fun k e => by cases e; exact h), fun i cs t fr hi _ _ =>
    World.putObj_heap_other (fun e => by rw [e, hl] at hi; cases hi; cases ho)⟩

/-- how the body of a round is left -/
def roundQ (n0 : Nat) (I : List Tk → World → Prop) (xs : List Tk) (W : World) : Exit → Act → World → Prop
  | .normal, _, W' => KeepsOthers W W' ∧ Kp n0 W W' ∧ I xs W'
  | _, _, _ => False

theorem lex_range {n : Nat} {a : Act} {w : World} {g : Operand} {p : Tmp} {assign body : Code} {Q : Exit → Act → World → Prop} (hn : 9 ≤ n) (b n0 : Nat) (s : ByteArray) (xs : List Tk) (fin : Nat) (q0 : Int)
    (hg : a.eval g = .func (.func 37) #[.pointer (some ⟨b, 0, none⟩)] #[])
    (hS : Src w b s 0 q0) (hE : Syms w) (hb0 : b ≠ 0) (hn0 : 0 < n0) (hnw : n0 ≤ w.heap.size) (hs : s.size ≤ 30000) (hx : lexF (s.size + 1) 0 s.data.toList = (xs, fin))
    (I : List Tk → World → Prop) (hI : ∀ pre W W', I pre W → W.grownBy W' (some b) → I pre W')
    (hIp : ∀ pre W l o o', I pre W → W.heap[l]? = some o → o.isCells = false → w.heap.size ≤ l → I pre (W.putObj l o')) (h0 : I [] w) (a₁ : Tk → Nat → Act)
    (hassign : ∀ (l : Nat) (x : Tk) (W : World) (K : Act → World → Prop), K (a₁ x W.heap.size) (W.alloc (Obj.cells (tkCells x).toArray 43)) →
      assign.wpIn (Fence.wide.inRound l) (n - 1 - 1) Tryd.prog (Exit.then K (fun _ _ _ => False)) { tmps := (#[p].zip #[tkArg x]).foldl (fun t (p, v) => t.setIfInBounds p v) a.tmps, defers := [] } W)
    (hbody : ∀ (l : Nat) (pre : List Tk) (x : Tk) (W : World) (c : Nat), I pre W → W.heap[c]? = some (Obj.cells (tkCells x).toArray 43 (0, 0)) → n0 ≤ W.heap.size → pre ++ [x] <+: xs →
      body.wpIn (Fence.wide.inRound l) (n - 1 - 1) Tryd.prog (roundQ n0 I (pre ++ [x]) W) (a₁ x c) W)
    (hdone : ∀ (D : Nat) (W : World), w.heap.size ≤ D → I xs W → Src W b s (posOf b W) (fin : Int) → W.heap[D]? = some (.deferred (some [])) → Q .normal { a with defers := { target := .collected D, args := #[] } :: a.defers } W) :
    (Code.rangeFunc g #[p] assign body).wpIn Fence.wide n Tryd.prog Q a w := by
  refine wpIn_rangeFunc ?_
  intro fn hfn
  rw [show Fence.wide.round = none from rfl]
  obtain ⟨rec, hrec⟩ : ∃ rec : LoopState → Option Code → Loop, rec = fun st pe => { state := st, pending := pe, fn, tmps := a.tmps, params := #[p], assign, body, defers := w.heap.size } := ⟨_, rfl⟩
  obtain ⟨W1, hW1⟩ : ∃ W1, (w.alloc (.deferred (some []))).alloc (.loop (rec .ready none)) = W1 := ⟨_, rfl⟩
  have hL1 : W1.heap[w.heap.size + 1]? = some (.loop (rec .ready none)) := by
    rw [← hW1]; have := World.alloc_heap_new (w.alloc (.deferred (some []))) (.loop (rec .ready none)); rwa [World.size_alloc] at this
  have hK1 : W1.heap[w.heap.size]? = some (.deferred (some [])) := by
    rw [← hW1]; exact (Below.heap_alloc _ _ _ (by simp)).trans (World.alloc_heap_new w _)
  have hg1 : ∀ row, w.grownBy W1 row := fun row => by rw [← hW1]; exact grown_trans (World.grownBy_alloc _ _ _) (World.grownBy_alloc _ _ _)
  have hbl := hS.lt
  refine ⟨w.heap.size + 1, [{ target := .collected w.heap.size, args := #[] }], W1, { target := .fn (.func 37) #[], args := #[.pointer (some ⟨b, 0, none⟩), .func (.yield (w.heap.size + 1)) #[] #[]] }, W1, 37,
    #[.pointer (some ⟨b, 0, none⟩), .func (.yield (w.heap.size + 1)) #[] #[]], W1, ?_, ?_, ?_, ?_, fun _ => by omega, ?_⟩
  · rw [← hW1, hrec]; exact run_enterLoop_outer _ _ _ _ _
  · simp only [resolve, hg]
    simp [go_sem]
  · intro f' hf'; trivial
  · have eg : ∀ args w, (callFunc 37 args).run Tryd.prog w = .ok (.enter 37 args) w := enters_of Tryd.func37 (by kernel_rfl) rfl
    simp [invoke, go_sem, eg]
  · refine (tokens_in (n - 1) (w.heap.size + 1) b n0 s xs fin q0
      (fun pre W => I pre W ∧ W.heap[w.heap.size + 1]? = some (.loop (rec .ready none)) ∧ W.heap[w.heap.size]? = some (.deferred (some [])) ∧ n0 ≤ W.heap.size) ?_ (by omega) ?_ W1 (hS.kept (hg1 none) (by simp)) (hE.grown (hg1 none) (by simp)) hb0 hn0 hs hx
      ⟨hI _ _ _ h0 (hg1 _), hL1, hK1, Nat.le_trans hnw (hg1 none).size⟩).mono ?_
    · rintro pre A B ⟨hi, hl, hk, hz⟩ hgr
      have l1 := (Array.getElem?_eq_some_iff.1 hl).1
      exact ⟨hI _ _ _ hi hgr, (hgr.block _ l1 (by simp; omega)).trans hl, (hgr.block _ (by omega) (by simp; omega)).trans hk, Nat.le_trans hz hgr.size⟩
    · -- one round
      rintro pre x W ⟨hi, hl, hk, hz⟩ hpre
      have hlt : w.heap.size + 1 < W.heap.size := (Array.getElem?_eq_some_iff.1 hl).1
      have hy := run_yield (P := Tryd.prog) (args := #[tkArg x]) hl (by rw [hrec]; rfl)
      rw [hrec] at hy
      refine ⟨fn, _, assign, body, hy, roundIn_of_wpIn hfn ?_⟩
      obtain ⟨WA, hWA⟩ : ∃ WA, W.alloc (Obj.cells (tkCells x).toArray 43) = WA := ⟨_, rfl⟩
      have hgA : ∀ row, W.grownBy WA row := fun row => by rw [← hWA]; exact World.grownBy_alloc _ _ _
      have hlA : WA.heap[w.heap.size + 1]? = some (.loop (rec .ready none)) := ((hgA none).block _ hlt (by simp)).trans hl
      have hkA : WA.heap[w.heap.size]? = some (.deferred (some [])) := ((hgA none).block _ (by omega) (by simp)).trans hk
      have hcA : WA.heap[W.heap.size]? = some (Obj.cells (tkCells x).toArray 43 (0, 0)) := by rw [← hWA]; exact World.alloc_heap_new W _
      have hltA : w.heap.size + 1 < WA.heap.size := (Array.getElem?_eq_some_iff.1 hlA).1
      have hzA : n0 ≤ WA.heap.size := Nat.le_trans hz (hgA none).size
      refine hassign _ x W _ ?_
      rw [hWA]
      refine ⟨_, run_beginRound hlA (by rw [hrec]), ?_⟩
      have hl2 : (WA.putObj (w.heap.size + 1) (.loop { rec .ready none with state := .busy })).heap[w.heap.size + 1]? = some (.loop { rec .ready none with state := .busy }) := World.putObj_heap_same hltA
      have hk2 : (WA.putObj (w.heap.size + 1) (.loop { rec .ready none with state := .busy })).heap[w.heap.size]? = some (.deferred (some [])) := (World.putObj_heap_other (by omega)).trans hkA
      have hc2 : (WA.putObj (w.heap.size + 1) (.loop { rec .ready none with state := .busy })).heap[W.heap.size]? = some (Obj.cells (tkCells x).toArray 43 (0, 0)) := (World.putObj_heap_other (by omega)).trans hcA
      have hw2 : Kp n0 W (WA.putObj (w.heap.size + 1) (.loop { rec .ready none with state := .busy })) := Kp.trans (by rw [← hWA]; exact Kp.alloc W _ hz) (Kp.putObj _ (by omega) hlA rfl)
      have hi2 := hIp pre _ _ _ (.loop { rec .ready none with state := .busy }) (hI _ _ _ hi (hgA _)) hlA rfl (by omega)
      refine wpIn_mono (hbody _ pre x _ _ hi2 hc2 (by rw [World.putObj_size]; exact hzA) hpre) ?_
      rintro e a3 W3 hp
      cases e with
      | normal =>
        obtain ⟨hk3, hkp3, hi3⟩ := hp
        have hl3 := hk3.same _ _ hl2 rfl
        have hd3 := hk3.same _ _ hk2 rfl
        have hend := run_endRound (P := Tryd.prog) none hl3
        have hl4 : (W3.putObj (w.heap.size + 1) (.loop (rec .ready none))).heap[w.heap.size + 1]? = some (.loop (rec .ready none)) := World.putObj_heap_same (Array.getElem?_eq_some_iff.1 hl3).1
        have hd4 : (W3.putObj (w.heap.size + 1) (.loop (rec .ready none))).heap[w.heap.size]? = some (.deferred (some [])) := (World.putObj_heap_other (by omega)).trans hd3
        rw [hrec] at hend hl4 hd4 hl3
        refine ⟨_, _, hend, rfl, ⟨hIp _ _ _ _ _ hi3 hl3 rfl (by omega), ?_, ?_, ?_⟩, ?_⟩
        · rw [hrec]; exact hl4
        · exact hd4
        · rw [World.putObj_size]; exact Nat.le_trans (by rw [World.putObj_size]; exact hzA) hkp3.1.size
        · exact Kp.trans (Kp.trans hw2 (by rw [hrec]; rw [hrec] at hkp3; exact hkp3)) (Kp.putObj _ (by omega) hl3 rfl)
      | ret => exact hp.elim
      | exit id => exact hp.elim
      | goto t => exact hp.elim
      | panic ch => exact hp.elim
      | outgrown => exact hp.elim
    · rintro e W2 ⟨⟨v, rfl⟩, ⟨hi, hl, hk, hz⟩, hs2⟩
      have hend := run_endLoop (P := Tryd.prog) hl (by rw [hrec]; simp)
      have hb2 := hs2.lt
      have hne : b ≠ w.heap.size + 1 := by omega
      have hsrc : ∀ o', Src (W2.putObj (w.heap.size + 1) o') b s (posOf b W2) fin := fun o' => (World.putObj_heap_other hne).trans hs2
      rw [hrec] at hend
      refine ⟨none, _, hend, hdone _ _ (Nat.le_refl _) (hIp _ _ _ _ _ hi hl rfl (by omega)) ?_ ((World.putObj_heap_other (by omega)).trans hk)⟩
      have h1 := hsrc (.loop { rec .ready none with state := .exhausted })
      rw [hrec] at h1
      have h2 := posOf_src h1
      rw [Int.toNat_natCast] at h2
      rw [h2]
      exact h1
end Go.Proofs.YtdnolbbkphgfiaaDoor
