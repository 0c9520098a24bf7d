/- Texts put together by program: SmB SmC SmD SmE SmF TyE TyF TyH. -/
import Derived.Test.YtndgoefhhjcllaaGreatDoorMgP
import Derived.BigQuiet
import Derived.Deep.QuietTactic
/- Expressions, compared: the plain comparison. -/
namespace Go.Proofs.YtndgoefhhjcllaaGreatDoor
open Go.RowKit

/-- the fields of two nodes agree, but for their parts -/
def hdE (a b : Ex) : Bool := decide (a.k = b.k) && (decide (a.n = b.n) && (decide (a.s = b.s) && (decide (a.t = b.t) && decide (a.ns = b.ns))))
mutual
def sameE : Ex → Ex → Bool
  | .mk k n s t ns l ops bs, .mk k' n' s' t' ns' l' ops' bs' => hdE (.mk k n s t ns l ops bs) (.mk k' n' s' t' ns' l' ops' bs') && (sameL l l' && sameA ops bs ops' bs')
def sameL : List Ex → List Ex → Bool
  | [], [] => true
  | x :: r, y :: q => sameE x y && sameL r q
  | _, _ => false
def sameA : List (Txt × List Txt) → List Ex → List (Txt × List Txt) → List Ex → Bool
  | _, [], _, [] => true
  | o :: ro, x :: r, p :: rp, y :: q => (decide (o = p) && sameE x y) && sameA ro r rp q
  | _, _, _, _ => false
end
theorem sameE_eq (a b : Ex) : sameE a b = (hdE a b && (sameL a.l b.l && sameA a.ops a.bs b.ops b.bs)) := by
  cases a; cases b; rw [sameE]; rfl
theorem sameL_len : ∀ {l m : List Ex}, sameL l m = true → l.length = m.length
  | [], [], _ => rfl
  | [], _ :: _, h => by simp [sameL] at h
  | _ :: _, [], h => by simp [sameL] at h
  | x :: r, y :: q, h => by
    rw [sameL, Bool.and_eq_true] at h
    rw [List.length_cons, List.length_cons, sameL_len h.2]
theorem sameA_len : ∀ {o p : List (Txt × List Txt)} {l m : List Ex}, sameA o l p m = true → l.length = m.length
  | _, _, [], [], _ => rfl
  | o, p, [], _ :: _, h => by cases o <;> cases p <;> simp [sameA] at h
  | o, p, _ :: _, [], h => by cases o <;> cases p <;> simp [sameA] at h
  | [], p, _ :: _, _ :: _, h => by cases p <;> simp [sameA] at h
  | _ :: _, [], _ :: _, _ :: _, h => by simp [sameA] at h
  | o :: ro, p :: rp, x :: r, y :: q, h => by
    rw [sameA, Bool.and_eq_true] at h
    rw [List.length_cons, List.length_cons, sameA_len h.2]
theorem sameL_snoc : ∀ {l m : List Ex} (x y : Ex), l.length = m.length → sameL (l ++ [x]) (m ++ [y]) = (sameL l m && sameE x y)
  | [], [], x, y, _ => by simp [sameL]
  | [], _ :: _, _, _, h => by simp at h
  | _ :: _, [], _, _, h => by simp at h
  | a :: r, b :: q, x, y, h => by
    rw [List.cons_append, List.cons_append, sameL, sameL, sameL_snoc x y (by simpa using h), Bool.and_assoc]
theorem sameA_snoc : ∀ {o p : List (Txt × List Txt)} {l m : List Ex} (u v : Txt × List Txt) (x y : Ex), l.length = m.length → o.length = l.length → p.length = m.length → sameA (o ++ [u]) (l ++ [x]) (p ++ [v]) (m ++ [y]) = (sameA o l p m && (decide (u = v) && sameE x y))
  | [], [], [], [], u, v, x, y, _, _, _ => by simp [sameA]
  | a :: ro, c :: rp, b :: r, d :: q, u, v, x, y, h1, h2, h3 => by
    rw [List.cons_append, List.cons_append, List.cons_append, List.cons_append, sameA, sameA, sameA_snoc u v x y (by simpa using h1) (by simpa using h2) (by simpa using h3)]
    simp only [Bool.and_assoc]
  | _ :: _, _, [], _, _, _, _, _, _, h, _ => by simp at h
  | [], _, _ :: _, _, _, _, _, _, _, h, _ => by simp at h
  | _, _ :: _, _, [], _, _, _, _, _, _, h => by simp at h
  | _, [], _, _ :: _, _, _, _, _, _, _, h => by simp at h
  | _, _, [], _ :: _, _, _, _, _, h, _, _ => by simp at h
  | _, _, _ :: _, [], _, _, _, _, h, _, _ => by simp at h
/-- some pair of parts differs: the lists do -/
theorem sameL_part : ∀ {l m : List Ex} (k : Nat) (x y : Ex), l[k]? = some x → m[k]? = some y → sameE x y = false → sameL l m = false
  | [], _, k, _, _, h, _, _ => by simp at h
  | _ :: _, [], k, _, _, _, h, _ => by simp at h
  | a :: r, b :: q, 0, x, y, h1, h2, h => by
    simp at h1 h2; subst h1; subst h2
    rw [sameL, h]; rfl
  | a :: r, b :: q, k + 1, x, y, h1, h2, h => by
    rw [sameL, sameL_part k x y (by simpa using h1) (by simpa using h2) h, Bool.and_false]
theorem sameA_part : ∀ {o p : List (Txt × List Txt)} {l m : List Ex} (k : Nat) (u v : Txt × List Txt) (x y : Ex), o[k]? = some u → p[k]? = some v → l[k]? = some x → m[k]? = some y → (decide (u = v) && sameE x y) = false → sameA o l p m = false
  | [], _, _, _, k, _, _, _, _, h, _, _, _, _ => by simp at h
  | _ :: _, [], _, _, k, _, _, _, _, _, h, _, _, _ => by simp at h
  | _ :: _, _ :: _, [], _, k, _, _, _, _, _, _, h, _, _ => by simp at h
  | _ :: _, _ :: _, _ :: _, [], k, _, _, _, _, _, _, _, h, _ => by simp at h
  | a :: ro, c :: rp, b :: r, d :: q, 0, u, v, x, y, h1, h2, h3, h4, h => by
    simp at h1 h2 h3 h4; subst h1; subst h2; subst h3; subst h4
    rw [sameA, h]; rfl
  | a :: ro, c :: rp, b :: r, d :: q, k + 1, u, v, x, y, h1, h2, h3, h4, h => by
    rw [sameA, sameA_part k u v x y (by simpa using h1) (by simpa using h2) (by simpa using h3) (by simpa using h4) h, Bool.and_false]
theorem sameE_self : ∀ e : Ex, evn e → sameE e e = true := by
  refine Ex.ind fun e ih hv => ?_
  cases e with
  | mk k n s t ns l ops bs =>
    obtain ⟨h1, h2, h3⟩ := hv.parts
    have hL : ∀ (L : List Ex), (∀ x ∈ L, sameE x x = true) → sameL L L = true := by
      intro L
      induction L with
      | nil => intro _; rfl
      | cons x r ihr => intro h; rw [sameL, h x (by simp), ihr (fun y hy => h y (by simp [hy]))]; rfl
    have hA : ∀ (O : List (Txt × List Txt)) (L : List Ex), O.length = L.length → (∀ x ∈ L, sameE x x = true) → sameA O L O L = true := by
      intro O
      induction O with
      | nil => intro L hl _; cases L with
        | nil => rfl
        | cons x r => simp at hl
      | cons o q ihr => intro L hl h; cases L with
        | nil => simp at hl
        | cons x r => rw [sameA, h x (by simp), ihr r (by simpa using hl) (fun y hy => h y (by simp [hy]))]; simp
    rw [sameE, hL l (fun x hx => ih x (by simp [Ex.parts, Ex.l, Ex.bs, hx]) (h2 x hx)), hA ops bs h1 (fun x hx => ih x (by simp [Ex.parts, Ex.l, Ex.bs, hx]) (h3 x hx))]
    simp [hdE]
end Go.Proofs.YtndgoefhhjcllaaGreatDoor
/- The reference's Same. -/
namespace Go.Proofs.YtndgoefhhjcllaaGreatDoor
open Go.RowKit

/-- what a comparison of an expression with any other one answers -/
def SmSays (f : Nat) (a : Ex) : Prop := ∀ (b : Ex) (cs1 cs2 : List Value) (w : World), RepE (fun _ => True) w a cs1 → RepE (fun _ => True) w b cs2 → Calls Tryz.prog f #[.agg cs1.toArray, .agg cs2.toArray] w fun r w' => r = .returned (.bool (sameE a b)) ∧ Below w.heap.size w w'
theorem hd_false {a b : Ex} (h : hdE a b = false) : sameE a b = false := by rw [sameE_eq, h]; rfl
theorem ArmCells.up {B b o : Nat} {w W1 : World} {h : Txt × List Txt} {e : Ex} {An : Option Addr} {cn : Nat} {k n : Int} {s t : ByteArray} {A0 : Option Addr} {n0 c0 : Nat} {A1 : Option Addr} {n1 c1 : Nat} {A2 : Option Addr} {n2 c2 : Nat} (H : ArmCells B w b o h e An cn k n s t A0 n0 c0 A1 n1 c1 A2 n2 c2) (hb : b < w.heap.size) (hB : Below w.heap.size w W1) :
    W1.cell? ⟨b, o, none⟩ = some (.string (strB h.1)) ∧ W1.cell? ⟨b, o + 1, none⟩ = some (.slice An h.2.length cn) ∧ W1.cell? ⟨b, o + 2, none⟩ = some (.int .i64 k) ∧ W1.cell? ⟨b, o + 3, none⟩ = some (.int .i64 n) ∧ W1.cell? ⟨b, o + 4, none⟩ = some (.string s) ∧ W1.cell? ⟨b, o + 5, none⟩ = some (.string t) ∧ W1.cell? ⟨b, o + 6, none⟩ = some (.slice A0 n0 c0) ∧ W1.cell? ⟨b, o + 7, none⟩ = some (.slice A1 n1 c1) ∧ W1.cell? ⟨b, o + 8, none⟩ = some (.slice A2 n2 c2) := by
  have k : ∀ o, W1.cell? ⟨b, o, none⟩ = w.cell? ⟨b, o, none⟩ := fun o => Below.cell (p := ⟨b, o, none⟩) hB hb
  exact ⟨(k _).trans H.d0, (k _).trans H.d1, (k _).trans H.d2, (k _).trans H.d3, (k _).trans H.d4, (k _).trans H.d5, (k _).trans H.d6, (k _).trans H.d7, (k _).trans H.d8⟩
set_option maxRecDepth 100000 in
set_option maxHeartbeats 8000000 in
theorem rSame_any : ∀ a, SmSays 24 a := by
  refine Ex.ind fun a ih b cs1 cs2 w h1 h2 => ?_
  cases a with
  | mk k n s t ns l ops bs =>
  cases b with
  | mk k' n' s' t' ns' l' ops' bs' =>
  have hE := sameE_eq (.mk k n s t ns l ops bs) (.mk k' n' s' t' ns' l' ops' bs')
  have h1' := h1.tight.weaken (Q := fun b => b < w.heap.size) (fun x hx => hx.2)
  have h2' := h2.tight.weaken (Q := fun b => b < w.heap.size) (fun x hx => hx.2)
  obtain ⟨An, cn, Al, cl, Aa, ca, rfl, hf, hn, hl, ha, ho⟩ := h1'
  obtain ⟨Bn, dn, Bl, dl, Ba, da, rfl, hf', hn', hl', ha', ho'⟩ := h2'
  have bd1 : ns.length ≤ maxLen := Nat.le_trans hf.hcn.1 hf.hcn.2
  have bd1' : ns'.length ≤ maxLen := Nat.le_trans hf'.hcn.1 hf'.hcn.2
  have bd2 : l.length ≤ maxLen := Nat.le_trans hf.hcl.1 hf.hcl.2
  have bd2' : l'.length ≤ maxLen := Nat.le_trans hf'.hcl.1 hf'.hcl.2
  have bd3 : bs.length ≤ maxLen := Nat.le_trans hf.hca.1 hf.hca.2
  have bd3' : bs'.length ≤ maxLen := Nat.le_trans hf'.hca.1 hf'.hca.2
  have hPl := parts_of hl
  have hPl' := parts_of hl'
  have hPa := arms_of ha
  have hPa' := arms_of ha'
  obtain ⟨S, hS⟩ : ∃ S, S = strB s := ⟨_, rfl⟩
  obtain ⟨T, hT⟩ : ∃ S, S = strB t := ⟨_, rfl⟩
  obtain ⟨nn, hnn⟩ : ∃ q, q = ns.length := ⟨_, rfl⟩
  obtain ⟨nl, hnl⟩ : ∃ q, q = l.length := ⟨_, rfl⟩
  obtain ⟨nb, hnb⟩ : ∃ q, q = bs.length := ⟨_, rfl⟩
  obtain ⟨S', hS'⟩ : ∃ S, S = strB s' := ⟨_, rfl⟩
  obtain ⟨T', hT'⟩ : ∃ S, S = strB t' := ⟨_, rfl⟩
  obtain ⟨nn', hnn'⟩ : ∃ q, q = ns'.length := ⟨_, rfl⟩
  obtain ⟨nl', hnl'⟩ : ∃ q, q = l'.length := ⟨_, rfl⟩
  obtain ⟨nb', hnb'⟩ : ∃ q, q = bs'.length := ⟨_, rfl⟩
  have HNm : Hid (∀ w', Below w.heap.size w w' → Calls Tryz.prog 50 #[.slice An nn cn, .slice Bn nn' dn] w' fun e w2 => e = .returned (.bool (decide (ns = ns'))) ∧ Below w'.heap.size w' w2) := Lib.hid (fun w' hb => by
    rw [hnn, hnn']
    exact (sameNames_any _ _ An Bn cn dn ns ns' w' (hn.keep (Same.of_below hb)) (hn'.keep (Same.of_below hb)) ⟨bd1, bd1'⟩).mono fun e w2 h => ⟨h.1, h.2.below⟩)
  obtain ⟨R, hR⟩ : ∃ R, R = sameE (.mk k n s t ns l ops bs) (.mk k' n' s' t' ns' l' ops' bs') := ⟨_, rfl⟩
  show Calls Tryz.prog 24 #[.agg #[.int .i64 k, .int .i64 n, .string (strB s), .string (strB t), .slice An ns.length cn, .slice Al l.length cl, .slice Aa bs.length ca], .agg #[.int .i64 k', .int .i64 n', .string (strB s'), .string (strB t'), .slice Bn ns'.length dn, .slice Bl l'.length dl, .slice Ba bs'.length da]] w fun r w' => r = .returned (.bool (sameE (.mk k n s t ns l ops bs) (.mk k' n' s' t' ns' l' ops' bs'))) ∧ Below w.heap.size w w'
  rw [← hR, ← hS, ← hS', ← hT, ← hT', ← hnn, ← hnn', ← hnl, ← hnl', ← hnb, ← hnb']
  rw [← hR] at hE
  have hnlb : (nl : Int) ≤ 9223372036854775807 := by rw [hnl]; unfold maxLen at bd2; omega
  have hnbb : (nb : Int) ≤ 9223372036854775807 := by rw [hnb]; unfold maxLen at bd3; omega
  have HB2 : Hid (Below w.heap.size w ((w.alloc (.cells #[.int .i64 k, .int .i64 n, .string S, .string T, .slice An nn cn, .slice Al nl cl, .slice Aa nb ca] 27)).alloc (.cells #[.int .i64 k', .int .i64 n', .string S', .string T', .slice Bn nn' dn, .slice Bl nl' dl, .slice Ba nb' da] 27))) := Lib.hid (((Below.refl _ _).alloc (Nat.le_refl _) _).alloc (by simp) _)
  obtain ⟨W2, hW2⟩ : ∃ W, (w.alloc (.cells #[.int .i64 k, .int .i64 n, .string S, .string T, .slice An nn cn, .slice Al nl cl, .slice Aa nb ca] 27)).alloc (.cells #[.int .i64 k', .int .i64 n', .string S', .string T', .slice Bn nn' dn, .slice Bl nl' dl, .slice Ba nb' da] 27) = W := ⟨_, rfl⟩
  have HEa : Hid (EB W2 w.heap.size (.int .i64 k) (.int .i64 n) (.string S) (.string T) (.slice An nn cn) (.slice Al nl cl) (.slice Aa nb ca)) := Lib.hid (by rw [← hW2]; exact (EB.new w _ _ _ _ _ _ _).kept (World.grownBy_alloc _ _ none) (by simp))
  have HEb : Hid (EB W2 (w.heap.size + 1) (.int .i64 k') (.int .i64 n') (.string S') (.string T') (.slice Bn nn' dn) (.slice Bl nl' dl) (.slice Ba nb' da)) := Lib.hid (by rw [← hW2]; have := EB.new (w.alloc (.cells #[.int .i64 k, .int .i64 n, .string S, .string T, .slice An nn cn, .slice Al nl cl, .slice Aa nb ca] 27)) (.int .i64 k') (.int .i64 n') (.string S') (.string T') (.slice Bn nn' dn) (.slice Bl nl' dl) (.slice Ba nb' da); rwa [World.size_alloc] at this)
  rw [hW2] at HB2
  have a0 := HEa.out.c0
  have b0 := HEb.out.c0
  have a1 := HEa.out.c1
  have b1 := HEb.out.c1
  have a2 := HEa.out.c2
  have b2 := HEb.out.c2
  have a3 := HEa.out.c3
  have b3 := HEb.out.c3
  have a4 := HEa.out.c4
  have b4 := HEb.out.c4
  have a5 := HEa.out.c5
  have b5 := HEb.out.c5
  have a6 := HEa.out.c6
  have b6 := HEb.out.c6
  clear bd1 bd1' bd2 bd2' bd3 bd3' hf hf' hn hn' hl hl' ha ha' h1 h2
  by_cases ek : k = k'
  case neg =>
    have HR : Hid (R = false) := Lib.hid (by rw [hE, show hdE _ _ = false from by simp [hdE, Ex.k, Ex.n, Ex.s, Ex.t, Ex.ns, ek]]; rfl)
    have f1 : (k != k') = true := by simpa using ek
    clear hS hS' hT hT' hnn hnn' hnl hnl' hnb hnb' hR hE hPl hPl' hPa hPa' ih ho ho' ek
    go_enter Tryz.func24, Tryz.ntmps24
    go_wp2_with fail
    go_ret
    exact ⟨by rw [HR.out]; rfl, HB2.out⟩
  subst ek
  by_cases en : n = n'
  case neg =>
    have HR : Hid (R = false) := Lib.hid (by rw [hE, show hdE _ _ = false from by simp [hdE, Ex.k, Ex.n, Ex.s, Ex.t, Ex.ns, en]]; rfl)
    have f1 : (n != n') = true := by simpa using en
    clear hS hS' hT hT' hnn hnn' hnl hnl' hnb hnb' hR hE hPl hPl' hPa hPa' ih ho ho' en
    go_enter Tryz.func24, Tryz.ntmps24
    go_wp2_with fail
    go_ret
    exact ⟨by rw [HR.out]; rfl, HB2.out⟩
  subst en
  by_cases es : s = s'
  case neg =>
    have HR : Hid (R = false) := Lib.hid (by rw [hE, show hdE _ _ = false from by simp [hdE, Ex.k, Ex.n, Ex.s, Ex.t, Ex.ns, es]]; rfl)
    have f0 : (S.toList == S'.toList) = false := by rw [hS, hS', ByteArray.toList_eq, ByteArray.toList_eq, data_strB, data_strB]; exact beq_eq_false_iff_ne.2 es
    have f1 : (S.toList != S'.toList) = true := by simp only [bne, f0]; rfl
    clear hS hS' hT hT' hnn hnn' hnl hnl' hnb hnb' hR hE hPl hPl' hPa hPa' ih ho ho' es
    go_enter Tryz.func24, Tryz.ntmps24
    go_wp2_with fail
    go_ret
    exact ⟨by rw [HR.out]; rfl, HB2.out⟩
  subst es
  obtain rfl : S' = S := by rw [hS, hS']
  by_cases et : t = t'
  case neg =>
    have HR : Hid (R = false) := Lib.hid (by rw [hE, show hdE _ _ = false from by simp [hdE, Ex.k, Ex.n, Ex.s, Ex.t, Ex.ns, et]]; rfl)
    have f0 : (T.toList == T'.toList) = false := by rw [hT, hT', ByteArray.toList_eq, ByteArray.toList_eq, data_strB, data_strB]; exact beq_eq_false_iff_ne.2 et
    have f1 : (T.toList != T'.toList) = true := by simp only [bne, f0]; rfl
    clear hS hS' hT hT' hnn hnn' hnl hnl' hnb hnb' hR hE hPl hPl' hPa hPa' ih ho ho' et
    go_enter Tryz.func24, Tryz.ntmps24
    go_wp2_with fail
    go_ret
    exact ⟨by rw [HR.out]; rfl, HB2.out⟩
  subst et
  obtain rfl : T' = T := by rw [hT, hT']
  by_cases ens : ns = ns'
  case neg =>
    have HR : Hid (R = false) := Lib.hid (by rw [hE, show hdE _ _ = false from by simp [hdE, Ex.k, Ex.n, Ex.s, Ex.t, Ex.ns, ens]]; rfl)
    rw [show decide (ns = ns') = false from decide_eq_false ens] at HNm
    clear hS hS' hT hT' hnn hnn' hnl hnl' hnb hnb' hR hE hPl hPl' hPa hPa' ih ho ho' ens
    go_enter Tryz.func24, Tryz.ntmps24
    go_wp2_with fail
    clear hW2
    refine (HNm.out _ HB2.out).mono ?_
    rintro r w3 ⟨rfl, hb⟩
    have HB3 := Lib.hid (HB2.out.trans (hb.mono HB2.out.size))
    have HEa3 := Lib.hid (HEa.out.kept (grown_below hb none) (by simp))
    have HEb3 := Lib.hid (HEb.out.kept (grown_below hb none) (by simp))
    clear hb a0 a1 a2 a3 a4 a5 a6 b0 b1 b2 b3 b4 b5 b6
    have a5 := HEa3.out.c5
    have b5 := HEb3.out.c5
    have a6 := HEa3.out.c6
    have b6 := HEb3.out.c6
    go_wp2_with fail
    go_ret
    exact ⟨by rw [HR.out]; rfl, HB3.out⟩
  rw [show decide (ns = ns') = true from decide_eq_true ens] at HNm
  by_cases enl : nl = nl'
  case neg =>
    have HR : Hid (R = false) := Lib.hid (by
      rw [hE]
      have h0 : sameL l l' = false := by
        cases hq : sameL l l' with
        | false => rfl
        | true => exact absurd (by rw [hnl, hnl']; exact sameL_len hq) enl
      show (_ && (sameL l l' && _)) = false
      rw [h0]; simp)
    have f1 : ((nl : Int) != (nl' : Int)) = true := by simp; omega
    have f2 : ((nl : Int) == (nl' : Int)) = false := by simp; omega
    clear hS hS' hT hT' hnn hnn' hnl hnl' hnb hnb' hR hE hPl hPl' hPa hPa' ih ho ho' ens enl
    go_enter Tryz.func24, Tryz.ntmps24
    go_wp2_with fail
    clear hW2
    refine (HNm.out _ HB2.out).mono ?_
    rintro r w3 ⟨rfl, hb⟩
    have HB3 := Lib.hid (HB2.out.trans (hb.mono HB2.out.size))
    have HEa3 := Lib.hid (HEa.out.kept (grown_below hb none) (by simp))
    have HEb3 := Lib.hid (HEb.out.kept (grown_below hb none) (by simp))
    clear hb a0 a1 a2 a3 a4 a5 a6 b0 b1 b2 b3 b4 b5 b6
    have a5 := HEa3.out.c5
    have b5 := HEb3.out.c5
    have a6 := HEa3.out.c6
    have b6 := HEb3.out.c6
    go_wp2_with fail
    go_ret
    exact ⟨by rw [HR.out]; rfl, HB3.out⟩
  subst enl
  by_cases enb : nb = nb'
  case neg =>
    have HR : Hid (R = false) := Lib.hid (by
      rw [hE]
      have h0 : sameA ops bs ops' bs' = false := by
        cases hq : sameA ops bs ops' bs' with
        | false => rfl
        | true => exact absurd (by rw [hnb, hnb']; exact sameA_len hq) enb
      show (_ && (_ && sameA ops bs ops' bs')) = false
      rw [h0]; simp)
    have f1 : ((nb : Int) != (nb' : Int)) = true := by simp; omega
    have f2 : ((nb : Int) == (nb' : Int)) = false := by simp; omega
    clear hS hS' hT hT' hnn hnn' hnl hnl' hnb hnb' hR hE hPl hPl' hPa hPa' ih ho ho' ens enb
    go_enter Tryz.func24, Tryz.ntmps24
    go_wp2_with fail
    clear hW2
    refine (HNm.out _ HB2.out).mono ?_
    rintro r w3 ⟨rfl, hb⟩
    have HB3 := Lib.hid (HB2.out.trans (hb.mono HB2.out.size))
    have HEa3 := Lib.hid (HEa.out.kept (grown_below hb none) (by simp))
    have HEb3 := Lib.hid (HEb.out.kept (grown_below hb none) (by simp))
    clear hb a0 a1 a2 a3 a4 a5 a6 b0 b1 b2 b3 b4 b5 b6
    have a5 := HEa3.out.c5
    have b5 := HEb3.out.c5
    have a6 := HEa3.out.c6
    have b6 := HEb3.out.c6
    go_wp2_with fail
    go_ret
    exact ⟨by rw [HR.out]; rfl, HB3.out⟩
  subst enb
  have HRt : Hid (R = (sameL l l' && sameA ops bs ops' bs')) := Lib.hid (by rw [hE, show hdE _ _ = true from by simp [hdE, Ex.k, Ex.n, Ex.s, Ex.t, Ex.ns, ens]]; rfl)
  have HNl := Lib.hid hnl
  have HNl' := Lib.hid hnl'
  have HNb := Lib.hid hnb
  have HNb' := Lib.hid hnb'
  have HPl := Lib.hid hPl
  have HPl' := Lib.hid hPl'
  have HPa := Lib.hid hPa
  have HPa' := Lib.hid hPa'
  have HIH := Lib.hid ih
  have HOl := Lib.hid ho
  have HOl' := Lib.hid ho'
  clear hS hS' hT hT' hnn hnn' hnl hnl' hnb hnb' hR hE hPl hPl' hPa hPa' ih ho ho' ens
  go_enter Tryz.func24, Tryz.ntmps24
  go_wp2_with fail
  clear hW2
  refine (HNm.out _ HB2.out).mono ?_
  rintro r w3 ⟨rfl, hb⟩
  have HB3 := Lib.hid (HB2.out.trans (hb.mono HB2.out.size))
  have HEa3 := Lib.hid (HEa.out.kept (grown_below hb none) (by simp))
  have HEb3 := Lib.hid (HEb.out.kept (grown_below hb none) (by simp))
  clear hb a0 a1 a2 a3 a4 a5 a6 b0 b1 b2 b3 b4 b5 b6
  have a5 := HEa3.out.c5
  have b5 := HEb3.out.c5
  have a6 := HEa3.out.c6
  have b6 := HEb3.out.c6
  have hzw : w.heap.size + 1 < w3.heap.size := HEb3.out.lt
  go_wp2_with fail
  go_loopw [5] (fun i wr => ∃ kk : Nat, kk ≤ nl ∧ i = .int .i64 (kk : Int) ∧ Hid (Below w3.heap.size w3 wr) ∧ Hid (sameL (l.take kk) (l'.take kk) = true)) (fun i _ => nl - (intOf i).toNat)
  case atStart => exact ⟨0, Nat.zero_le _, rfl, Lib.hid (Below.refl _ _), Lib.hid rfl⟩
  case round =>
    obtain ⟨kk, hkk, rfl, hB, hSm⟩ := hrel
    clear a5 b5 a6 b6
    have HB0 := Lib.hid (HB3.out.trans (hB.out.mono HB3.out.size))
    have hzr : w.heap.size + 1 < wr.heap.size := Nat.lt_of_lt_of_le hzw hB.out.size
    have HEar := Lib.hid (HEa3.out.kept (grown_below hB.out none) (by simp))
    have HEbr := Lib.hid (HEb3.out.kept (grown_below hB.out none) (by simp))
    have hs0 : PtS wr wr := Below.refl _ _
    have a5 := HEar.out.c5
    have b5 := HEbr.out.c5
    have j0 : (0 : Int) ≤ (kk : Int) := by omega
    by_cases hkl : kk < nl
    case pos =>
      have hk1 : kk < l.length := by rw [← HNl.out]; exact hkl
      have hk2 : kk < l'.length := by rw [← HNl'.out]; exact hkl
      have j1 : (kk : Int) < (nl : Int) := by omega
      obtain ⟨x, hx⟩ : ∃ x, x = l[kk] := ⟨_, rfl⟩
      obtain ⟨y, hy⟩ : ∃ x, x = l'[kk] := ⟨_, rfl⟩
      have hxl : l[kk]? = some x := by rw [hx]; exact List.getElem?_eq_getElem hk1
      have hyl : l'[kk]? = some y := by rw [hy]; exact List.getElem?_eq_getElem hk2
      have hx7 := HPl.out
      have hy7 := HPl'.out
      obtain ⟨b, off, rfl⟩ := HPl.out.addr (by omega)
      obtain ⟨b', off', rfl⟩ := HPl'.out.addr (by omega)
      obtain ⟨⟨hbx, _⟩, k1, m1, s1, t1, X0, p0, c0, X1, p1, c1, X2, p2, c2, hcx⟩ := HPl.out.at hxl
      obtain ⟨⟨hby, _⟩, k2, m2, s2, t2, Y0, q0, d0, Y1, q1, d1, Y2, q2, d2, hcy⟩ := HPl'.out.at hyl
      obtain ⟨f0, f1, f2, f3, f4, f5, f6⟩ := hcx.up hbx HB0.out
      obtain ⟨g0, g1, g2, g3, g4, g5, g6⟩ := hcy.up hby HB0.out
      have hbx2 : b < wr.heap.size := Nat.lt_of_lt_of_le hbx HB0.out.size
      have hby2 : b' < wr.heap.size := Nat.lt_of_lt_of_le hby HB0.out.size
      obtain ⟨V, hV⟩ : ∃ V, V = sameE x y := ⟨_, rfl⟩
      have HS : Hid (∀ w', PtS wr w' → Calls Tryz.prog 24 #[.agg #[.int .i64 k1, .int .i64 m1, .string s1, .string t1, .slice X0 p0 c0, .slice X1 p1 c1, .slice X2 p2 c2], .agg #[.int .i64 k2, .int .i64 m2, .string s2, .string t2, .slice Y0 q0 d0, .slice Y1 q1 d1, .slice Y2 q2 d2]] w' fun r w2 => r = .returned (.bool V) ∧ Below w'.heap.size w' w2) := Lib.hid (fun w' hp => by
        have hb : Below w.heap.size w w' := HB0.out.trans (Below.mono (show Below wr.heap.size wr w' from hp) HB0.out.size)
        rw [hV]
        exact HIH.out x (List.mem_append_left _ (List.mem_of_getElem? hxl)) y _ _ w' ((hcx.rep.weaken (Q := fun _ => True) (fun _ _ => trivial)).keep (Same.of_below hb)) ((hcy.rep.weaken (Q := fun _ => True) (fun _ _ => trivial)).keep (Same.of_below hb)))
      have HV := Lib.hid hV
      have HX := Lib.hid hxl
      have HY := Lib.hid hyl
      have HTk : Hid (sameL (l.take (kk + 1)) (l'.take (kk + 1)) = (sameL (l.take kk) (l'.take kk) && V)) := Lib.hid (by rw [take_succ_of hk1, take_succ_of hk2, ← hx, ← hy, sameL_snoc x y (by rw [List.length_take, List.length_take]; omega), hV])
      clear hx hy hxl hyl hx7 hy7 hcx hcy hV hbx hby
      have HAll := Lib.hid (fun w' (h : PtS wr w') => And.intro (PtS.keep h (by omega) HEar.out.c5) (And.intro (PtS.keep h hzr HEbr.out.c5) (And.intro (PtS.keep h hbx2 f0) (And.intro (PtS.keep h hbx2 f1) (And.intro (PtS.keep h hbx2 f2) (And.intro (PtS.keep h hbx2 f3) (And.intro (PtS.keep h hbx2 f4) (And.intro (PtS.keep h hbx2 f5) (And.intro (PtS.keep h hbx2 f6) (And.intro (PtS.keep h hby2 g0) (And.intro (PtS.keep h hby2 g1) (And.intro (PtS.keep h hby2 g2) (And.intro (PtS.keep h hby2 g3) (And.intro (PtS.keep h hby2 g4) (And.intro (PtS.keep h hby2 g5) (And.intro (PtS.keep h hby2 g6) h))))))))))))))))
      clear f0 f1 f2 f3 f4 f5 f6 g0 g1 g2 g3 g4 g5 g6 HEar HEbr
      cases V with
      | false =>
        have HRf : Hid (R = false) := Lib.hid (by rw [HRt.out, sameL_part kk x y HX.out HY.out HV.out.symm]; rfl)
        go_wp2_with fail
        clear a5 b5
        go_region_held3 (fun w' => w'.cell? ⟨w.heap.size, 5, none⟩ = some (.slice (some ⟨b, off, none⟩) nl cl) ∧ w'.cell? ⟨w.heap.size + 1, 5, none⟩ = some (.slice (some ⟨b', off', none⟩) nl dl) ∧ w'.cell? ⟨b, off + kk * 7, none⟩ = some (.int .i64 k1) ∧ w'.cell? ⟨b, off + kk * 7 + 1, none⟩ = some (.int .i64 m1) ∧ w'.cell? ⟨b, off + kk * 7 + 2, none⟩ = some (.string s1) ∧ w'.cell? ⟨b, off + kk * 7 + 3, none⟩ = some (.string t1) ∧ w'.cell? ⟨b, off + kk * 7 + 4, none⟩ = some (.slice X0 p0 c0) ∧ w'.cell? ⟨b, off + kk * 7 + 5, none⟩ = some (.slice X1 p1 c1) ∧ w'.cell? ⟨b, off + kk * 7 + 6, none⟩ = some (.slice X2 p2 c2) ∧ w'.cell? ⟨b', off' + kk * 7, none⟩ = some (.int .i64 k2) ∧ w'.cell? ⟨b', off' + kk * 7 + 1, none⟩ = some (.int .i64 m2) ∧ w'.cell? ⟨b', off' + kk * 7 + 2, none⟩ = some (.string s2) ∧ w'.cell? ⟨b', off' + kk * 7 + 3, none⟩ = some (.string t2) ∧ w'.cell? ⟨b', off' + kk * 7 + 4, none⟩ = some (.slice Y0 q0 d0) ∧ w'.cell? ⟨b', off' + kk * 7 + 5, none⟩ = some (.slice Y1 q1 d1) ∧ w'.cell? ⟨b', off' + kk * 7 + 6, none⟩ = some (.slice Y2 q2 d2) ∧ PtS wr w')
          ((refine HAll.out _ ?_; first | assumption | exact hs0.drew | exact .below ‹_› hs0.drew | exact .below ‹_› (.below ‹_› hs0.drew)))
          (first | (go_at_call 24; (with_reducible refine (HS.out _ (by first | assumption | exact hs0.drew | exact .below ‹_› hs0.drew | exact .below ‹_› (.below ‹_› hs0.drew))).mono ?_); rintro e w' ⟨rfl, hb⟩))
        rename_i hh
        have HBn := Lib.hid (hB.out.trans (Below.mono (show Below wr.heap.size wr _ from hh.2.2.2.2.2.2.2.2.2.2.2.2.2.2.2.2) hB.out.size))
        clear hh HAll hs0
        go_wp2_with fail
        go_ret
        exact ⟨by rw [HRf.out]; rfl, HB3.out.trans (HBn.out.mono HB3.out.size)⟩
      | true =>
        go_wp2_with fail
        clear a5 b5
        go_region_held3 (fun w' => w'.cell? ⟨w.heap.size, 5, none⟩ = some (.slice (some ⟨b, off, none⟩) nl cl) ∧ w'.cell? ⟨w.heap.size + 1, 5, none⟩ = some (.slice (some ⟨b', off', none⟩) nl dl) ∧ w'.cell? ⟨b, off + kk * 7, none⟩ = some (.int .i64 k1) ∧ w'.cell? ⟨b, off + kk * 7 + 1, none⟩ = some (.int .i64 m1) ∧ w'.cell? ⟨b, off + kk * 7 + 2, none⟩ = some (.string s1) ∧ w'.cell? ⟨b, off + kk * 7 + 3, none⟩ = some (.string t1) ∧ w'.cell? ⟨b, off + kk * 7 + 4, none⟩ = some (.slice X0 p0 c0) ∧ w'.cell? ⟨b, off + kk * 7 + 5, none⟩ = some (.slice X1 p1 c1) ∧ w'.cell? ⟨b, off + kk * 7 + 6, none⟩ = some (.slice X2 p2 c2) ∧ w'.cell? ⟨b', off' + kk * 7, none⟩ = some (.int .i64 k2) ∧ w'.cell? ⟨b', off' + kk * 7 + 1, none⟩ = some (.int .i64 m2) ∧ w'.cell? ⟨b', off' + kk * 7 + 2, none⟩ = some (.string s2) ∧ w'.cell? ⟨b', off' + kk * 7 + 3, none⟩ = some (.string t2) ∧ w'.cell? ⟨b', off' + kk * 7 + 4, none⟩ = some (.slice Y0 q0 d0) ∧ w'.cell? ⟨b', off' + kk * 7 + 5, none⟩ = some (.slice Y1 q1 d1) ∧ w'.cell? ⟨b', off' + kk * 7 + 6, none⟩ = some (.slice Y2 q2 d2) ∧ PtS wr w')
          ((refine HAll.out _ ?_; first | assumption | exact hs0.drew | exact .below ‹_› hs0.drew | exact .below ‹_› (.below ‹_› hs0.drew)))
          (first | (go_at_call 24; (with_reducible refine (HS.out _ (by first | assumption | exact hs0.drew | exact .below ‹_› hs0.drew | exact .below ‹_› (.below ‹_› hs0.drew))).mono ?_); rintro e w' ⟨rfl, hb⟩))
        rename_i hh
        have HBn := Lib.hid (hB.out.trans (Below.mono (show Below wr.heap.size wr _ from hh.2.2.2.2.2.2.2.2.2.2.2.2.2.2.2.2) hB.out.size))
        clear hh HAll hs0
        go_wp2_with fail
        go_roundw
        case rel => exact ⟨kk + 1, by omega, by go_num, HBn, Lib.hid (by rw [HTk.out, hSm.out]; rfl)⟩
        case measure => simp [intOf]; omega
    case neg =>
      obtain rfl : kk = nl := by omega
      have HSl : Hid (sameL l l' = true) := Lib.hid (by have h := hSm.out; rwa [List.take_of_length_le (by rw [← HNl.out]; exact Nat.le_refl _), List.take_of_length_le (by rw [← HNl'.out]; exact Nat.le_refl _)] at h)
      obtain ⟨w4, hw4⟩ : ∃ q, q = wr := ⟨_, rfl⟩
      subst hw4
      have hBq := hB
      clear hs0 hSm
      go_wp2_with fail
      go_loopw [6] (fun i wr => ∃ kk : Nat, kk ≤ nb ∧ i = .int .i64 (kk : Int) ∧ Hid (Below w3.heap.size w3 wr) ∧ Hid (sameA (ops.take kk) (bs.take kk) (ops'.take kk) (bs'.take kk) = true)) (fun i _ => nb - (intOf i).toNat)
      case atStart => exact ⟨0, Nat.zero_le _, rfl, hBq, Lib.hid rfl⟩
      case round =>
        clear hB
        obtain ⟨kk, hkk, rfl, hB, hSm⟩ := hrel
        have HB0 := Lib.hid (HB3.out.trans (hB.out.mono HB3.out.size))
        have hzr : w.heap.size + 1 < wr.heap.size := Nat.lt_of_lt_of_le hzw hB.out.size
        have HEar := Lib.hid (HEa3.out.kept (grown_below hB.out none) (by simp))
        have HEbr := Lib.hid (HEb3.out.kept (grown_below hB.out none) (by simp))
        have hs0 : PtS wr wr := Below.refl _ _
        have a6 := HEar.out.c6
        have b6 := HEbr.out.c6
        have j0 : (0 : Int) ≤ (kk : Int) := by omega
        by_cases hkl : kk < nb
        case pos =>
          have hk1 : kk < bs.length := by rw [← HNb.out]; exact hkl
          have hk2 : kk < bs'.length := by rw [← HNb'.out]; exact hkl
          have ho1 : kk < ops.length := by rw [HOl.out]; exact hk1
          have ho2 : kk < ops'.length := by rw [HOl'.out]; exact hk2
          have j1 : (kk : Int) < (nb : Int) := by omega
          obtain ⟨x, hx⟩ : ∃ x, x = bs[kk] := ⟨_, rfl⟩
          obtain ⟨y, hy⟩ : ∃ x, x = bs'[kk] := ⟨_, rfl⟩
          obtain ⟨u, hu⟩ : ∃ x, x = ops[kk] := ⟨_, rfl⟩
          obtain ⟨v, hv⟩ : ∃ x, x = ops'[kk] := ⟨_, rfl⟩
          have hxl : bs[kk]? = some x := by rw [hx]; exact List.getElem?_eq_getElem hk1
          have hyl : bs'[kk]? = some y := by rw [hy]; exact List.getElem?_eq_getElem hk2
          have hul : ops[kk]? = some u := by rw [hu]; exact List.getElem?_eq_getElem ho1
          have hvl : ops'[kk]? = some v := by rw [hv]; exact List.getElem?_eq_getElem ho2
          obtain ⟨b, off, rfl, _, hbx, hcc⟩ := HPa.out (List.ne_nil_of_mem (List.mem_of_getElem? hxl))
          obtain ⟨b', off', rfl, _, hby, hcc'⟩ := HPa'.out (List.ne_nil_of_mem (List.mem_of_getElem? hyl))
          obtain ⟨Xn, xc, k1, m1, s1, t1, X0, p0, c0, X1, p1, c1, X2, p2, c2, hcx⟩ := hcc kk u x hul hxl
          obtain ⟨Yn, yc, k2, m2, s2, t2, Y0, q0, d0, Y1, q1, d1, Y2, q2, d2, hcy⟩ := hcc' kk v y hvl hyl
          obtain ⟨f0, f1, f2, f3, f4, f5, f6, f7, f8⟩ := hcx.up hbx HB0.out
          obtain ⟨g0, g1, g2, g3, g4, g5, g6, g7, g8⟩ := hcy.up hby HB0.out
          have hbx2 : b < wr.heap.size := Nat.lt_of_lt_of_le hbx HB0.out.size
          have hby2 : b' < wr.heap.size := Nat.lt_of_lt_of_le hby HB0.out.size
          obtain ⟨OP, hOP⟩ : ∃ X, X = strB u.1 := ⟨_, rfl⟩
          obtain ⟨OQ, hOQ⟩ : ∃ X, X = strB v.1 := ⟨_, rfl⟩
          rw [← hOP] at f0
          rw [← hOQ] at g0
          obtain ⟨on1, hon1⟩ : ∃ q, q = u.2.length := ⟨_, rfl⟩
          obtain ⟨on2, hon2⟩ : ∃ q, q = v.2.length := ⟨_, rfl⟩
          rw [← hon1] at f1
          rw [← hon2] at g1
          have HNq : Hid (∀ w', Qt wr w' → Calls Tryz.prog 50 #[.slice Xn on1 xc, .slice Yn on2 yc] w' fun e w2 => e = .returned (.bool (decide (u.2 = v.2))) ∧ Qt w' w2) := Lib.hid (fun w' hq => by
            have hb : Below w.heap.size w w' := HB0.out.trans (hq.below.mono HB0.out.size)
            rw [hon1, hon2]
            exact sameNames_any _ _ Xn Yn xc yc u.2 v.2 w' (hcx.names.keep (Same.of_below hb)) (hcy.names.keep (Same.of_below hb)) ⟨Nat.le_trans hcx.len.1 hcx.len.2, Nat.le_trans hcy.len.1 hcy.len.2⟩)
          have HNp : Hid (∀ w', PtS wr w' → Calls Tryz.prog 50 #[.slice Xn on1 xc, .slice Yn on2 yc] w' fun e w2 => e = .returned (.bool (decide (u.2 = v.2))) ∧ Below w'.heap.size w' w2) := Lib.hid (fun w' hp => by
            have hb : Below w.heap.size w w' := HB0.out.trans (Below.mono (show Below wr.heap.size wr w' from hp) HB0.out.size)
            rw [hon1, hon2]
            exact (sameNames_any _ _ Xn Yn xc yc u.2 v.2 w' (hcx.names.keep (Same.of_below hb)) (hcy.names.keep (Same.of_below hb)) ⟨Nat.le_trans hcx.len.1 hcx.len.2, Nat.le_trans hcy.len.1 hcy.len.2⟩).mono fun e w2 h => ⟨h.1, h.2.below⟩)
          obtain ⟨V, hV⟩ : ∃ V, V = sameE x y := ⟨_, rfl⟩
          have HS : Hid (∀ w', PtS wr w' → Calls Tryz.prog 24 #[.agg #[.int .i64 k1, .int .i64 m1, .string s1, .string t1, .slice X0 p0 c0, .slice X1 p1 c1, .slice X2 p2 c2], .agg #[.int .i64 k2, .int .i64 m2, .string s2, .string t2, .slice Y0 q0 d0, .slice Y1 q1 d1, .slice Y2 q2 d2]] w' fun r w2 => r = .returned (.bool V) ∧ Below w'.heap.size w' w2) := Lib.hid (fun w' hp => by
            have hb : Below w.heap.size w w' := HB0.out.trans (Below.mono (show Below wr.heap.size wr w' from hp) HB0.out.size)
            rw [hV]
            exact HIH.out x (List.mem_append_right _ (List.mem_of_getElem? hxl)) y _ _ w' ((hcx.rep.weaken (Q := fun _ => True) (fun _ _ => trivial)).keep (Same.of_below hb)) ((hcy.rep.weaken (Q := fun _ => True) (fun _ _ => trivial)).keep (Same.of_below hb)))
          have HPart : Hid ((decide (u = v) && V) = false → R = false) := Lib.hid (fun h => by rw [HRt.out, sameA_part kk u v x y hul hvl hxl hyl (by rw [← hV]; exact h), Bool.and_false])
          have HTk : Hid (sameA (ops.take (kk + 1)) (bs.take (kk + 1)) (ops'.take (kk + 1)) (bs'.take (kk + 1)) = (sameA (ops.take kk) (bs.take kk) (ops'.take kk) (bs'.take kk) && (decide (u = v) && V))) := Lib.hid (by rw [take_succ_of hk1, take_succ_of hk2, take_succ_of ho1, take_succ_of ho2, ← hx, ← hy, ← hu, ← hv, sameA_snoc u v x y (by rw [List.length_take, List.length_take]; omega) (by rw [List.length_take, List.length_take]; omega) (by rw [List.length_take, List.length_take]; omega), hV])
          clear hx hy hu hv hxl hyl hul hvl hcc hcc' hcx hcy hV hbx hby
          by_cases e1 : u.1 = v.1
          case neg =>
            have HRf : Hid (R = false) := Lib.hid (HPart.out (by rw [decide_eq_false (fun h => e1 (by rw [h]))]; rfl))
            have f9 : (OP.toList == OQ.toList) = false := by rw [hOP, hOQ, ByteArray.toList_eq, ByteArray.toList_eq, data_strB, data_strB]; exact beq_eq_false_iff_ne.2 e1
            have g9 : (OP.toList != OQ.toList) = true := by simp only [bne, f9]; rfl
            clear e1 hOP hOQ hon1 hon2 hs0
            go_wp2_with fail
            go_quiet (fail)
            go_wp2_with fail
            go_ret
            exact ⟨by rw [HRf.out]; rfl, HB3.out.trans ((hB.out.trans ((Qt.below ⟨nq, rfl⟩).mono hB.out.size)).mono HB3.out.size)⟩
          obtain rfl : OQ = OP := by rw [hOP, hOQ, e1]
          by_cases e2 : u.2 = v.2
          case neg =>
            have HRf : Hid (R = false) := Lib.hid (HPart.out (by rw [decide_eq_false (fun h => e2 (by rw [h]))]; rfl))
            rw [show decide (u.2 = v.2) = false from decide_eq_false e2] at HNq
            clear e1 e2 hOP hOQ hon1 hon2 hs0 HNp
            go_wp2_with fail
            go_quiet ((go_at_call 50; exact Calls.quiet_of (HNq.out _ ⟨_, rfl⟩)))
            go_wp2_with fail
            go_ret
            exact ⟨by rw [HRf.out]; rfl, HB3.out.trans ((hB.out.trans ((Qt.below ⟨nq, rfl⟩).mono hB.out.size)).mono HB3.out.size)⟩
          have HD : Hid (decide (u = v) = true) := Lib.hid (decide_eq_true (Prod.ext e1 e2))
          rw [show decide (u.2 = v.2) = true from decide_eq_true e2] at HNp
          have HAll := Lib.hid (fun w' (h : PtS wr w') => And.intro (PtS.keep h (by omega) HEar.out.c6) (And.intro (PtS.keep h hzr HEbr.out.c6) (And.intro (PtS.keep h hbx2 f0) (And.intro (PtS.keep h hbx2 f1) (And.intro (PtS.keep h hbx2 f2) (And.intro (PtS.keep h hbx2 f3) (And.intro (PtS.keep h hbx2 f4) (And.intro (PtS.keep h hbx2 f5) (And.intro (PtS.keep h hbx2 f6) (And.intro (PtS.keep h hbx2 f7) (And.intro (PtS.keep h hbx2 f8) (And.intro (PtS.keep h hby2 g0) (And.intro (PtS.keep h hby2 g1) (And.intro (PtS.keep h hby2 g2) (And.intro (PtS.keep h hby2 g3) (And.intro (PtS.keep h hby2 g4) (And.intro (PtS.keep h hby2 g5) (And.intro (PtS.keep h hby2 g6) (And.intro (PtS.keep h hby2 g7) (And.intro (PtS.keep h hby2 g8) h))))))))))))))))))))
          clear f0 f1 f2 f3 f4 f5 f6 f7 f8 g0 g1 g2 g3 g4 g5 g6 g7 g8 HEar HEbr e1 e2 hOP hOQ hon1 hon2 HNq
          cases V with
          | false =>
            have HRf : Hid (R = false) := Lib.hid (HPart.out (by rw [HD.out]; rfl))
            go_wp2_with fail
            clear a6 b6
            go_region_held3 (fun w' => w'.cell? ⟨w.heap.size, 6, none⟩ = some (.slice (some ⟨b, off, none⟩) nb ca) ∧ w'.cell? ⟨w.heap.size + 1, 6, none⟩ = some (.slice (some ⟨b', off', none⟩) nb da) ∧ w'.cell? ⟨b, off + kk * 9, none⟩ = some (.string OQ) ∧ w'.cell? ⟨b, off + kk * 9 + 1, none⟩ = some (.slice Xn on1 xc) ∧ w'.cell? ⟨b, off + kk * 9 + 2, none⟩ = some (.int .i64 k1) ∧ w'.cell? ⟨b, off + kk * 9 + 3, none⟩ = some (.int .i64 m1) ∧ w'.cell? ⟨b, off + kk * 9 + 4, none⟩ = some (.string s1) ∧ w'.cell? ⟨b, off + kk * 9 + 5, none⟩ = some (.string t1) ∧ w'.cell? ⟨b, off + kk * 9 + 6, none⟩ = some (.slice X0 p0 c0) ∧ w'.cell? ⟨b, off + kk * 9 + 7, none⟩ = some (.slice X1 p1 c1) ∧ w'.cell? ⟨b, off + kk * 9 + 8, none⟩ = some (.slice X2 p2 c2) ∧ w'.cell? ⟨b', off' + kk * 9, none⟩ = some (.string OQ) ∧ w'.cell? ⟨b', off' + kk * 9 + 1, none⟩ = some (.slice Yn on2 yc) ∧ w'.cell? ⟨b', off' + kk * 9 + 2, none⟩ = some (.int .i64 k2) ∧ w'.cell? ⟨b', off' + kk * 9 + 3, none⟩ = some (.int .i64 m2) ∧ w'.cell? ⟨b', off' + kk * 9 + 4, none⟩ = some (.string s2) ∧ w'.cell? ⟨b', off' + kk * 9 + 5, none⟩ = some (.string t2) ∧ w'.cell? ⟨b', off' + kk * 9 + 6, none⟩ = some (.slice Y0 q0 d0) ∧ w'.cell? ⟨b', off' + kk * 9 + 7, none⟩ = some (.slice Y1 q1 d1) ∧ w'.cell? ⟨b', off' + kk * 9 + 8, none⟩ = some (.slice Y2 q2 d2) ∧ PtS wr w')
              ((refine HAll.out _ ?_; first | assumption | exact hs0.drew | exact .below ‹_› hs0.drew | exact .below ‹_› (.below ‹_› hs0.drew)))
              (first | (go_at_call 50; (with_reducible refine (HNp.out _ (by first | assumption | exact hs0.drew | exact .below ‹_› hs0.drew | exact .below ‹_› (.below ‹_› hs0.drew))).mono ?_); rintro e w' ⟨rfl, hb⟩) | (go_at_call 24; (with_reducible refine (HS.out _ (by first | assumption | exact hs0.drew | exact .below ‹_› hs0.drew | exact .below ‹_› (.below ‹_› hs0.drew))).mono ?_); rintro e w' ⟨rfl, hb⟩))
            rename_i hh
            have HBn := Lib.hid (hB.out.trans (Below.mono (show Below wr.heap.size wr _ from hh.2.2.2.2.2.2.2.2.2.2.2.2.2.2.2.2.2.2.2.2) hB.out.size))
            clear hh HAll hs0
            go_wp2_with fail
            go_ret
            exact ⟨by rw [HRf.out]; rfl, HB3.out.trans (HBn.out.mono HB3.out.size)⟩
          | true =>
            go_wp2_with fail
            clear a6 b6
            go_region_held3 (fun w' => w'.cell? ⟨w.heap.size, 6, none⟩ = some (.slice (some ⟨b, off, none⟩) nb ca) ∧ w'.cell? ⟨w.heap.size + 1, 6, none⟩ = some (.slice (some ⟨b', off', none⟩) nb da) ∧ w'.cell? ⟨b, off + kk * 9, none⟩ = some (.string OQ) ∧ w'.cell? ⟨b, off + kk * 9 + 1, none⟩ = some (.slice Xn on1 xc) ∧ w'.cell? ⟨b, off + kk * 9 + 2, none⟩ = some (.int .i64 k1) ∧ w'.cell? ⟨b, off + kk * 9 + 3, none⟩ = some (.int .i64 m1) ∧ w'.cell? ⟨b, off + kk * 9 + 4, none⟩ = some (.string s1) ∧ w'.cell? ⟨b, off + kk * 9 + 5, none⟩ = some (.string t1) ∧ w'.cell? ⟨b, off + kk * 9 + 6, none⟩ = some (.slice X0 p0 c0) ∧ w'.cell? ⟨b, off + kk * 9 + 7, none⟩ = some (.slice X1 p1 c1) ∧ w'.cell? ⟨b, off + kk * 9 + 8, none⟩ = some (.slice X2 p2 c2) ∧ w'.cell? ⟨b', off' + kk * 9, none⟩ = some (.string OQ) ∧ w'.cell? ⟨b', off' + kk * 9 + 1, none⟩ = some (.slice Yn on2 yc) ∧ w'.cell? ⟨b', off' + kk * 9 + 2, none⟩ = some (.int .i64 k2) ∧ w'.cell? ⟨b', off' + kk * 9 + 3, none⟩ = some (.int .i64 m2) ∧ w'.cell? ⟨b', off' + kk * 9 + 4, none⟩ = some (.string s2) ∧ w'.cell? ⟨b', off' + kk * 9 + 5, none⟩ = some (.string t2) ∧ w'.cell? ⟨b', off' + kk * 9 + 6, none⟩ = some (.slice Y0 q0 d0) ∧ w'.cell? ⟨b', off' + kk * 9 + 7, none⟩ = some (.slice Y1 q1 d1) ∧ w'.cell? ⟨b', off' + kk * 9 + 8, none⟩ = some (.slice Y2 q2 d2) ∧ PtS wr w')
              ((refine HAll.out _ ?_; first | assumption | exact hs0.drew | exact .below ‹_› hs0.drew | exact .below ‹_› (.below ‹_› hs0.drew)))
              (first | (go_at_call 50; (with_reducible refine (HNp.out _ (by first | assumption | exact hs0.drew | exact .below ‹_› hs0.drew | exact .below ‹_› (.below ‹_› hs0.drew))).mono ?_); rintro e w' ⟨rfl, hb⟩) | (go_at_call 24; (with_reducible refine (HS.out _ (by first | assumption | exact hs0.drew | exact .below ‹_› hs0.drew | exact .below ‹_› (.below ‹_› hs0.drew))).mono ?_); rintro e w' ⟨rfl, hb⟩))
            rename_i hh
            have HBn := Lib.hid (hB.out.trans (Below.mono (show Below wr.heap.size wr _ from hh.2.2.2.2.2.2.2.2.2.2.2.2.2.2.2.2.2.2.2.2) hB.out.size))
            clear hh HAll hs0
            go_wp2_with fail
            go_roundw
            case rel => exact ⟨kk + 1, by omega, by go_num, HBn, Lib.hid (by rw [HTk.out, hSm.out, HD.out]; rfl)⟩
            case measure => simp [intOf]; omega
        case neg =>
          obtain rfl : kk = nb := by omega
          have HRr : Hid (R = true) := Lib.hid (by
            have h := hSm.out
            rw [List.take_of_length_le (by rw [HOl.out, ← HNb.out]; exact Nat.le_refl _), List.take_of_length_le (by rw [← HNb.out]; exact Nat.le_refl _), List.take_of_length_le (by rw [HOl'.out, ← HNb'.out]; exact Nat.le_refl _), List.take_of_length_le (by rw [← HNb'.out]; exact Nat.le_refl _)] at h
            rw [HRt.out, HSl.out, h]; rfl)
          go_wp2_with fail
          go_ret
          exact ⟨by rw [HRr.out]; rfl, HB0.out⟩
end Go.Proofs.YtndgoefhhjcllaaGreatDoor
/- slices.EqualFunc for the parts of a node, and for its arms. -/
namespace Go.Proofs.YtndgoefhhjcllaaGreatDoor
open Go.RowKit

/-- what the program's comparison answers at a level -/
def SaAt (lv : Int) (a : Ex) : Prop := ∀ (b : Ex) (cs1 cs2 : List Value) (w : World), RepE (fun _ => True) w a cs1 → RepE (fun _ => True) w b cs2 → Calls Tryz.prog 49 #[.int .i64 lv, .agg cs1.toArray, .agg cs2.toArray] w fun r w' => r = .returned (.bool (sameE a b)) ∧ Below w.heap.size w w'
/-- the same for arms -/
def ArAt (lv : Int) (a : Ex) : Prop := ∀ (b : Ex) (u v : Txt × List Txt) (Xn Yn : Option Addr) (xc yc : Nat) (cs1 cs2 : List Value) (w : World), NamesAt (fun _ => True) w Xn u.2 → NamesAt (fun _ => True) w Yn v.2 → u.2.length ≤ maxLen ∧ v.2.length ≤ maxLen → RepE (fun _ => True) w a cs1 → RepE (fun _ => True) w b cs2 →
  Calls Tryz.prog 112 #[.int .i64 lv, .agg (.string (strB u.1) :: .slice Xn u.2.length xc :: cs1).toArray, .agg (.string (strB v.1) :: .slice Yn v.2.length yc :: cs2).toArray] w fun r w' => r = .returned (.bool (decide (u = v) && sameE a b)) ∧ Below w.heap.size w w'
set_option maxRecDepth 100000 in
set_option maxHeartbeats 4000000 in
theorem eqE_any (lv : Int) (l l' : List Ex) (hS : ∀ x ∈ l, SaAt lv x) (A A' : Option Addr) (c c' B : Nat) (w : World) (hP : PartsAt B w A l) (hP' : PartsAt B w A' l') (hl : l.length ≤ maxLen) (_ : l'.length ≤ maxLen) :
    Calls Tryz.prog 110 #[.slice A l.length c, .slice A' l'.length c', .func (.func 49) #[.int .i64 lv] #[]] w fun e w' => e = .returned (.bool (sameL l l')) ∧ Below w.heap.size w w' := by
  obtain ⟨n, hn⟩ : ∃ n, n = l.length := ⟨_, rfl⟩
  obtain ⟨m, hm⟩ : ∃ n, n = l'.length := ⟨_, rfl⟩
  have HN := Lib.hid hn
  have HM := Lib.hid hm
  have HP := Lib.hid hP
  have HP' := Lib.hid hP'
  have HS := Lib.hid hS
  obtain ⟨R, hR⟩ : ∃ R, R = sameL l l' := ⟨_, rfl⟩
  have HR := Lib.hid hR
  rw [← hn, ← hm, ← hR]
  unfold maxLen at hl
  have hnb : (n : Int) ≤ 9223372036854775807 := by omega
  clear hP hP' hS hR hl hn hm
  by_cases hnm : n = m
  case neg =>
    have HRf : Hid (R = false) := Lib.hid (by
      rw [HR.out]
      cases hq : sameL l l' with
      | false => rfl
      | true => exact absurd (by rw [HN.out, HM.out]; exact sameL_len hq) hnm)
    have f1 : ((n : Int) != (m : Int)) = true := by simp; omega
    have f2 : ((n : Int) == (m : Int)) = false := by simp; omega
    clear hnm
    go_enter Tryz.func110, Tryz.ntmps110
    go_wp2_with fail
    go_ret
    exact ⟨by rw [HRf.out]; rfl, Below.refl _ _⟩
  subst hnm
  have f1 : ((n : Int) != (n : Int)) = false := by simp
  go_enter Tryz.func110, Tryz.ntmps110
  go_wp2_with fail
  go_loopw [17] (fun i wr => ∃ kk : Nat, kk ≤ n ∧ i = .int .i64 (kk : Int) ∧ Hid (Below w.heap.size w wr) ∧ Hid (sameL (l.take kk) (l'.take kk) = true)) (fun i _ => n - (intOf i).toNat)
  case atStart => exact ⟨0, Nat.zero_le _, rfl, Lib.hid (Below.refl _ _), Lib.hid rfl⟩
  case round =>
    obtain ⟨kk, hkk, rfl, hB, hSm⟩ := hrel
    have j0 : (0 : Int) ≤ (kk : Int) := by omega
    by_cases hkl : kk < n
    case pos =>
      have hk1 : kk < l.length := by rw [← HN.out]; exact hkl
      have hk2 : kk < l'.length := by rw [← HM.out]; exact hkl
      have j1 : (kk : Int) < (n : Int) := by omega
      obtain ⟨x, hx⟩ : ∃ x, x = l[kk] := ⟨_, rfl⟩
      obtain ⟨y, hy⟩ : ∃ x, x = l'[kk] := ⟨_, rfl⟩
      have hxl : l[kk]? = some x := by rw [hx]; exact List.getElem?_eq_getElem hk1
      have hyl : l'[kk]? = some y := by rw [hy]; exact List.getElem?_eq_getElem hk2
      obtain ⟨b, off, rfl⟩ := HP.out.addr (by omega)
      obtain ⟨b', off', rfl⟩ := HP'.out.addr (by omega)
      obtain ⟨⟨hbx, _⟩, k1, m1, s1, t1, X0, p0, c0, X1, p1, c1, X2, p2, c2, hcx⟩ := HP.out.at hxl
      obtain ⟨⟨hby, _⟩, k2, m2, s2, t2, Y0, q0, d0, Y1, q1, d1, Y2, q2, d2, hcy⟩ := HP'.out.at hyl
      obtain ⟨f0, f1, f2, f3, f4, f5, f6⟩ := hcx.up hbx hB.out
      obtain ⟨g0, g1, g2, g3, g4, g5, g6⟩ := hcy.up hby hB.out
      have hbx2 : b < wr.heap.size := Nat.lt_of_lt_of_le hbx hB.out.size
      have hby2 : b' < wr.heap.size := Nat.lt_of_lt_of_le hby hB.out.size
      obtain ⟨V, hV⟩ : ∃ V, V = sameE x y := ⟨_, rfl⟩
      obtain ⟨W2, hW2⟩ : ∃ W, ((wr.alloc (.cells #[.int .i64 k1, .int .i64 m1, .string s1, .string t1, .slice X0 p0 c0, .slice X1 p1 c1, .slice X2 p2 c2] 27)).alloc (.cells #[.int .i64 k2, .int .i64 m2, .string s2, .string t2, .slice Y0 q0 d0, .slice Y1 q1 d1, .slice Y2 q2 d2] 27)) = W := ⟨_, rfl⟩
      have HBW : Hid (Below wr.heap.size wr W2) := Lib.hid (by rw [← hW2]; exact ((Below.refl _ _).alloc (Nat.le_refl _) _).alloc (by simp) _)
      have HEx : Hid (EB W2 wr.heap.size (.int .i64 k1) (.int .i64 m1) (.string s1) (.string t1) (.slice X0 p0 c0) (.slice X1 p1 c1) (.slice X2 p2 c2)) := Lib.hid (by rw [← hW2]; exact (EB.new wr _ _ _ _ _ _ _).kept (World.grownBy_alloc _ _ none) (by simp))
      have HEy : Hid (EB W2 (wr.heap.size + 1) (.int .i64 k2) (.int .i64 m2) (.string s2) (.string t2) (.slice Y0 q0 d0) (.slice Y1 q1 d1) (.slice Y2 q2 d2)) := Lib.hid (by rw [← hW2]; have := EB.new (wr.alloc (.cells #[.int .i64 k1, .int .i64 m1, .string s1, .string t1, .slice X0 p0 c0, .slice X1 p1 c1, .slice X2 p2 c2] 27)) (.int .i64 k2) (.int .i64 m2) (.string s2) (.string t2) (.slice Y0 q0 d0) (.slice Y1 q1 d1) (.slice Y2 q2 d2); rwa [World.size_alloc] at this)
      have a0 := HEx.out.c0
      have a1 := HEx.out.c1
      have a2 := HEx.out.c2
      have a3 := HEx.out.c3
      have a4 := HEx.out.c4
      have a5 := HEx.out.c5
      have a6 := HEx.out.c6
      have b0 := HEy.out.c0
      have b1 := HEy.out.c1
      have b2 := HEy.out.c2
      have b3 := HEy.out.c3
      have b4 := HEy.out.c4
      have b5 := HEy.out.c5
      have b6 := HEy.out.c6
      have HC : Hid (Calls Tryz.prog 49 #[.int .i64 lv, .agg #[.int .i64 k1, .int .i64 m1, .string s1, .string t1, .slice X0 p0 c0, .slice X1 p1 c1, .slice X2 p2 c2], .agg #[.int .i64 k2, .int .i64 m2, .string s2, .string t2, .slice Y0 q0 d0, .slice Y1 q1 d1, .slice Y2 q2 d2]] W2 fun r w2 => r = .returned (.bool V) ∧ Below W2.heap.size W2 w2) := Lib.hid (by
        have hb : Below w.heap.size w W2 := hB.out.trans (HBW.out.mono hB.out.size)
        rw [hV]
        exact HS.out x (List.mem_of_getElem? hxl) y _ _ W2 ((hcx.rep.weaken (Q := fun _ => True) (fun _ _ => trivial)).keep (Same.of_below hb)) ((hcy.rep.weaken (Q := fun _ => True) (fun _ _ => trivial)).keep (Same.of_below hb)))
      have HPart : Hid (V = false → R = false) := Lib.hid (fun h => by rw [HR.out]; exact sameL_part kk x y hxl hyl (by rw [← hV]; exact h))
      have HTk : Hid (sameL (l.take (kk + 1)) (l'.take (kk + 1)) = (sameL (l.take kk) (l'.take kk) && V)) := Lib.hid (by rw [take_succ_of hk1, take_succ_of hk2, ← hx, ← hy, sameL_snoc x y (by rw [List.length_take, List.length_take]; omega), hV])
      clear hx hy hxl hyl hcx hcy hV
      cases V with
      | false =>
        have HRf := Lib.hid (HPart.out rfl)
        go_wp2_with fail
        clear hW2
        refine HC.out.mono ?_
        rintro e w3 ⟨rfl, hb⟩
        have HB3 := Lib.hid (hB.out.trans ((HBW.out.trans (hb.mono HBW.out.size)).mono hB.out.size))
        clear hb
        clear a0 a1 a2 a3 a4 a5 a6 b0 b1 b2 b3 b4 b5 b6
        go_wp2_with fail
        go_ret
        exact ⟨by rw [HRf.out]; rfl, HB3.out⟩
      | true =>
        go_wp2_with fail
        clear hW2
        refine HC.out.mono ?_
        rintro e w3 ⟨rfl, hb⟩
        have HB3 := Lib.hid (hB.out.trans ((HBW.out.trans (hb.mono HBW.out.size)).mono hB.out.size))
        clear hb
        clear a0 a1 a2 a3 a4 a5 a6 b0 b1 b2 b3 b4 b5 b6
        go_wp2_with fail
        go_roundw
        case rel => exact ⟨kk + 1, by omega, by go_num, HB3, Lib.hid (by rw [HTk.out, hSm.out]; rfl)⟩
        case measure => simp [intOf]; omega
    case neg =>
      obtain rfl : kk = n := by omega
      have HRt : Hid (R = true) := Lib.hid (by
        have h := hSm.out
        rw [List.take_of_length_le (by rw [← HN.out]; exact Nat.le_refl _), List.take_of_length_le (by rw [← HM.out]; exact Nat.le_refl _)] at h
        rw [HR.out, h])
      go_wp2_with fail
      go_ret
      exact ⟨by rw [HRt.out]; rfl, hB.out⟩
set_option maxRecDepth 100000 in
set_option maxHeartbeats 4000000 in
theorem eqA_any (lv : Int) (ops ops' : List (Txt × List Txt)) (l l' : List Ex) (hS : ∀ x ∈ l, ArAt lv x) (A A' : Option Addr) (c c' B : Nat) (w : World) (hP : ArmsAt B w A ops l) (hP' : ArmsAt B w A' ops' l') (ho : ops.length = l.length) (ho' : ops'.length = l'.length) (hl : l.length ≤ maxLen) (_ : l'.length ≤ maxLen) :
    Calls Tryz.prog 111 #[.slice A l.length c, .slice A' l'.length c', .func (.func 112) #[.int .i64 lv] #[]] w fun e w' => e = .returned (.bool (sameA ops l ops' l')) ∧ Below w.heap.size w w' := by
  obtain ⟨n, hn⟩ : ∃ n, n = l.length := ⟨_, rfl⟩
  obtain ⟨m, hm⟩ : ∃ n, n = l'.length := ⟨_, rfl⟩
  have HN := Lib.hid hn
  have HM := Lib.hid hm
  have HP := Lib.hid hP
  have HP' := Lib.hid hP'
  have HS := Lib.hid hS
  obtain ⟨R, hR⟩ : ∃ R, R = sameA ops l ops' l' := ⟨_, rfl⟩
  have HR := Lib.hid hR
  rw [← hn, ← hm, ← hR]
  unfold maxLen at hl
  have hnb : (n : Int) ≤ 9223372036854775807 := by omega
  have HO := Lib.hid ho
  have HO' := Lib.hid ho'
  clear hP hP' hS hR hl hn hm ho ho'
  by_cases hnm : n = m
  case neg =>
    have HRf : Hid (R = false) := Lib.hid (by
      rw [HR.out]
      cases hq : sameA ops l ops' l' with
      | false => rfl
      | true => exact absurd (by rw [HN.out, HM.out]; exact sameA_len hq) hnm)
    have f1 : ((n : Int) != (m : Int)) = true := by simp; omega
    have f2 : ((n : Int) == (m : Int)) = false := by simp; omega
    clear hnm
    go_enter Tryz.func111, Tryz.ntmps111
    go_wp2_with fail
    go_ret
    exact ⟨by rw [HRf.out]; rfl, Below.refl _ _⟩
  subst hnm
  have f1 : ((n : Int) != (n : Int)) = false := by simp
  go_enter Tryz.func111, Tryz.ntmps111
  go_wp2_with fail
  go_loopw [17] (fun i wr => ∃ kk : Nat, kk ≤ n ∧ i = .int .i64 (kk : Int) ∧ Hid (Below w.heap.size w wr) ∧ Hid (sameA (ops.take kk) (l.take kk) (ops'.take kk) (l'.take kk) = true)) (fun i _ => n - (intOf i).toNat)
  case atStart => exact ⟨0, Nat.zero_le _, rfl, Lib.hid (Below.refl _ _), Lib.hid rfl⟩
  case round =>
    obtain ⟨kk, hkk, rfl, hB, hSm⟩ := hrel
    have j0 : (0 : Int) ≤ (kk : Int) := by omega
    by_cases hkl : kk < n
    case pos =>
      have hk1 : kk < l.length := by rw [← HN.out]; exact hkl
      have hk2 : kk < l'.length := by rw [← HM.out]; exact hkl
      have j1 : (kk : Int) < (n : Int) := by omega
      obtain ⟨x, hx⟩ : ∃ x, x = l[kk] := ⟨_, rfl⟩
      obtain ⟨y, hy⟩ : ∃ x, x = l'[kk] := ⟨_, rfl⟩
      have hxl : l[kk]? = some x := by rw [hx]; exact List.getElem?_eq_getElem hk1
      have hyl : l'[kk]? = some y := by rw [hy]; exact List.getElem?_eq_getElem hk2
      have ho1 : kk < ops.length := by rw [HO.out]; exact hk1
      have ho2 : kk < ops'.length := by rw [HO'.out]; exact hk2
      obtain ⟨u, hu⟩ : ∃ x, x = ops[kk] := ⟨_, rfl⟩
      obtain ⟨v, hv⟩ : ∃ x, x = ops'[kk] := ⟨_, rfl⟩
      have hul : ops[kk]? = some u := by rw [hu]; exact List.getElem?_eq_getElem ho1
      have hvl : ops'[kk]? = some v := by rw [hv]; exact List.getElem?_eq_getElem ho2
      obtain ⟨b, off, rfl, _, hbx, hcc⟩ := HP.out (List.ne_nil_of_mem (List.mem_of_getElem? hxl))
      obtain ⟨b', off', rfl, _, hby, hcc'⟩ := HP'.out (List.ne_nil_of_mem (List.mem_of_getElem? hyl))
      obtain ⟨Xn, xc, k1, m1, s1, t1, X0, p0, c0, X1, p1, c1, X2, p2, c2, hcx⟩ := hcc kk u x hul hxl
      obtain ⟨Yn, yc, k2, m2, s2, t2, Y0, q0, d0, Y1, q1, d1, Y2, q2, d2, hcy⟩ := hcc' kk v y hvl hyl
      obtain ⟨f0, f1, f2, f3, f4, f5, f6, f7, f8⟩ := hcx.up hbx hB.out
      obtain ⟨g0, g1, g2, g3, g4, g5, g6, g7, g8⟩ := hcy.up hby hB.out
      obtain ⟨OP, hOP⟩ : ∃ X, X = strB u.1 := ⟨_, rfl⟩
      obtain ⟨OQ, hOQ⟩ : ∃ X, X = strB v.1 := ⟨_, rfl⟩
      rw [← hOP] at f0
      rw [← hOQ] at g0
      obtain ⟨on1, hon1⟩ : ∃ q, q = u.2.length := ⟨_, rfl⟩
      obtain ⟨on2, hon2⟩ : ∃ q, q = v.2.length := ⟨_, rfl⟩
      rw [← hon1] at f1
      rw [← hon2] at g1
      have hbx2 : b < wr.heap.size := Nat.lt_of_lt_of_le hbx hB.out.size
      have hby2 : b' < wr.heap.size := Nat.lt_of_lt_of_le hby hB.out.size
      obtain ⟨V, hV⟩ : ∃ V, V = (decide (u = v) && sameE x y) := ⟨_, rfl⟩
      obtain ⟨W2, hW2⟩ : ∃ W, ((wr.alloc (.cells #[.string OP, .slice Xn on1 xc, .int .i64 k1, .int .i64 m1, .string s1, .string t1, .slice X0 p0 c0, .slice X1 p1 c1, .slice X2 p2 c2] 81)).alloc (.cells #[.string OQ, .slice Yn on2 yc, .int .i64 k2, .int .i64 m2, .string s2, .string t2, .slice Y0 q0 d0, .slice Y1 q1 d1, .slice Y2 q2 d2] 81)) = W := ⟨_, rfl⟩
      have HBW : Hid (Below wr.heap.size wr W2) := Lib.hid (by rw [← hW2]; exact ((Below.refl _ _).alloc (Nat.le_refl _) _).alloc (by simp) _)
      have HEx : Hid (AB W2 wr.heap.size (.string OP) (.slice Xn on1 xc) (.int .i64 k1) (.int .i64 m1) (.string s1) (.string t1) (.slice X0 p0 c0) (.slice X1 p1 c1) (.slice X2 p2 c2)) := Lib.hid (by rw [← hW2]; exact (Lib.alloc_old _ _ _ (by simp)).trans (heap_alloc_new wr _))
      have HEy : Hid (AB W2 (wr.heap.size + 1) (.string OQ) (.slice Yn on2 yc) (.int .i64 k2) (.int .i64 m2) (.string s2) (.string t2) (.slice Y0 q0 d0) (.slice Y1 q1 d1) (.slice Y2 q2 d2)) := Lib.hid (by rw [← hW2]; have := heap_alloc_new (wr.alloc (.cells #[.string OP, .slice Xn on1 xc, .int .i64 k1, .int .i64 m1, .string s1, .string t1, .slice X0 p0 c0, .slice X1 p1 c1, .slice X2 p2 c2] 81)) (.cells #[.string OQ, .slice Yn on2 yc, .int .i64 k2, .int .i64 m2, .string s2, .string t2, .slice Y0 q0 d0, .slice Y1 q1 d1, .slice Y2 q2 d2] 81); rwa [World.size_alloc] at this)
      obtain ⟨a0, a1, a2, a3, a4, a5, a6, a7, a8⟩ := HEx.out.c
      obtain ⟨b0, b1, b2, b3, b4, b5, b6, b7, b8⟩ := HEy.out.c
      have HC : Hid (Calls Tryz.prog 112 #[.int .i64 lv, .agg #[.string OP, .slice Xn on1 xc, .int .i64 k1, .int .i64 m1, .string s1, .string t1, .slice X0 p0 c0, .slice X1 p1 c1, .slice X2 p2 c2], .agg #[.string OQ, .slice Yn on2 yc, .int .i64 k2, .int .i64 m2, .string s2, .string t2, .slice Y0 q0 d0, .slice Y1 q1 d1, .slice Y2 q2 d2]] W2 fun r w2 => r = .returned (.bool V) ∧ Below W2.heap.size W2 w2) := Lib.hid (by
        have hb : Below w.heap.size w W2 := hB.out.trans (HBW.out.mono hB.out.size)
        rw [hV, hOP, hOQ, hon1, hon2]
        exact HS.out x (List.mem_of_getElem? hxl) y u v Xn Yn xc yc _ _ W2 ((hcx.names.keep (Same.of_below hb)).weaken (fun _ _ => trivial)) ((hcy.names.keep (Same.of_below hb)).weaken (fun _ _ => trivial)) ⟨Nat.le_trans hcx.len.1 hcx.len.2, Nat.le_trans hcy.len.1 hcy.len.2⟩ ((hcx.rep.weaken (Q := fun _ => True) (fun _ _ => trivial)).keep (Same.of_below hb)) ((hcy.rep.weaken (Q := fun _ => True) (fun _ _ => trivial)).keep (Same.of_below hb)))
      have HPart : Hid (V = false → R = false) := Lib.hid (fun h => by rw [HR.out]; exact sameA_part kk u v x y hul hvl hxl hyl (by rw [← hV]; exact h))
      have HTk : Hid (sameA (ops.take (kk + 1)) (l.take (kk + 1)) (ops'.take (kk + 1)) (l'.take (kk + 1)) = (sameA (ops.take kk) (l.take kk) (ops'.take kk) (l'.take kk) && V)) := Lib.hid (by rw [take_succ_of hk1, take_succ_of hk2, take_succ_of ho1, take_succ_of ho2, ← hx, ← hy, ← hu, ← hv, sameA_snoc u v x y (by rw [List.length_take, List.length_take]; omega) (by rw [List.length_take, List.length_take]; omega) (by rw [List.length_take, List.length_take]; omega), hV])
      clear hx hy hu hv hxl hyl hul hvl hcc hcc' hcx hcy hV hOP hOQ hon1 hon2
      cases V with
      | false =>
        have HRf := Lib.hid (HPart.out rfl)
        go_wp2_with fail
        clear hW2
        refine HC.out.mono ?_
        rintro e w3 ⟨rfl, hb⟩
        have HB3 := Lib.hid (hB.out.trans ((HBW.out.trans (hb.mono HBW.out.size)).mono hB.out.size))
        clear hb
        clear a0 a1 a2 a3 a4 a5 a6 a7 a8 b0 b1 b2 b3 b4 b5 b6 b7 b8
        go_wp2_with fail
        go_ret
        exact ⟨by rw [HRf.out]; rfl, HB3.out⟩
      | true =>
        go_wp2_with fail
        clear hW2
        refine HC.out.mono ?_
        rintro e w3 ⟨rfl, hb⟩
        have HB3 := Lib.hid (hB.out.trans ((HBW.out.trans (hb.mono HBW.out.size)).mono hB.out.size))
        clear hb
        clear a0 a1 a2 a3 a4 a5 a6 a7 a8 b0 b1 b2 b3 b4 b5 b6 b7 b8
        go_wp2_with fail
        go_roundw
        case rel => exact ⟨kk + 1, by omega, by go_num, HB3, Lib.hid (by rw [HTk.out, hSm.out]; rfl)⟩
        case measure => simp [intOf]; omega
    case neg =>
      obtain rfl : kk = n := by omega
      have HRt : Hid (R = true) := Lib.hid (by
        have h := hSm.out
        rw [List.take_of_length_le (by rw [HO.out, ← HN.out]; exact Nat.le_refl _), List.take_of_length_le (by rw [← HN.out]; exact Nat.le_refl _), List.take_of_length_le (by rw [HO'.out, ← HM.out]; exact Nat.le_refl _), List.take_of_length_le (by rw [← HM.out]; exact Nat.le_refl _)] at h
        rw [HR.out, h])
      go_wp2_with fail
      go_ret
      exact ⟨by rw [HRt.out]; rfl, hB.out⟩
end Go.Proofs.YtndgoefhhjcllaaGreatDoor
/- The program's comparison of arms. -/
namespace Go.Proofs.YtndgoefhhjcllaaGreatDoor
open Go.RowKit

set_option maxRecDepth 100000 in
set_option maxHeartbeats 4000000 in
theorem sameArm_any (lv : Int) (x : Ex) (hS : SaAt lv x) : ArAt lv x := by
  intro y u v Xn Yn xc yc cs1 cs2 w hn1 hn2 hl h1 h2
  obtain ⟨k1, m1, s1, t1, X0, p0, c0, X1, p1, c1, X2, p2, c2, rfl⟩ := h1.shape
  obtain ⟨k2, m2, s2, t2, Y0, q0, d0, Y1, q1, d1, Y2, q2, d2, rfl⟩ := h2.shape
  obtain ⟨OP, hOP⟩ : ∃ X, X = strB u.1 := ⟨_, rfl⟩
  obtain ⟨OQ, hOQ⟩ : ∃ X, X = strB v.1 := ⟨_, rfl⟩
  obtain ⟨on1, hon1⟩ : ∃ q, q = u.2.length := ⟨_, rfl⟩
  obtain ⟨on2, hon2⟩ : ∃ q, q = v.2.length := ⟨_, rfl⟩
  obtain ⟨V, hV⟩ : ∃ V, V = sameE x y := ⟨_, rfl⟩
  show Calls Tryz.prog 112 #[.int .i64 lv, .agg #[.string (strB u.1), .slice Xn u.2.length xc, .int .i64 k1, .int .i64 m1, .string s1, .string t1, .slice X0 p0 c0, .slice X1 p1 c1, .slice X2 p2 c2], .agg #[.string (strB v.1), .slice Yn v.2.length yc, .int .i64 k2, .int .i64 m2, .string s2, .string t2, .slice Y0 q0 d0, .slice Y1 q1 d1, .slice Y2 q2 d2]] w _
  obtain ⟨R, hR⟩ : ∃ R, R = (decide (u = v) && sameE x y) := ⟨_, rfl⟩
  have HNq : Hid (∀ w', Below w.heap.size w w' → Calls Tryz.prog 109 #[.slice Xn on1 xc, .slice Yn on2 yc] w' fun e w2 => e = .returned (.bool (decide (u.2 = v.2))) ∧ Below w'.heap.size w' w2) := Lib.hid (fun w' hb => by
    rw [hon1, hon2]
    exact (eqNames_any _ _ Xn Yn xc yc u.2 v.2 w' (hn1.keep (Same.of_below hb)) (hn2.keep (Same.of_below hb)) hl).mono fun e w2 h => ⟨h.1, h.2.below⟩)
  have HC : Hid (∀ w', Below w.heap.size w w' → Calls Tryz.prog 49 #[.int .i64 lv, .agg #[.int .i64 k1, .int .i64 m1, .string s1, .string t1, .slice X0 p0 c0, .slice X1 p1 c1, .slice X2 p2 c2], .agg #[.int .i64 k2, .int .i64 m2, .string s2, .string t2, .slice Y0 q0 d0, .slice Y1 q1 d1, .slice Y2 q2 d2]] w' fun r w2 => r = .returned (.bool V) ∧ Below w'.heap.size w' w2) := Lib.hid (fun w' hb => by
    rw [hV]
    exact hS y _ _ w' (h1.keep (Same.of_below hb)) (h2.keep (Same.of_below hb)))
  rw [← hR, ← hOP, ← hOQ, ← hon1, ← hon2]
  obtain ⟨W2, hW2⟩ : ∃ W, ((w.alloc (.cells #[.string OP, .slice Xn on1 xc, .int .i64 k1, .int .i64 m1, .string s1, .string t1, .slice X0 p0 c0, .slice X1 p1 c1, .slice X2 p2 c2] 81)).alloc (.cells #[.string OQ, .slice Yn on2 yc, .int .i64 k2, .int .i64 m2, .string s2, .string t2, .slice Y0 q0 d0, .slice Y1 q1 d1, .slice Y2 q2 d2] 81)) = W := ⟨_, rfl⟩
  have HB2 : Hid (Below w.heap.size w W2) := Lib.hid (by rw [← hW2]; exact ((Below.refl _ _).alloc (Nat.le_refl _) _).alloc (by simp) _)
  have HEx : Hid (AB W2 w.heap.size (.string OP) (.slice Xn on1 xc) (.int .i64 k1) (.int .i64 m1) (.string s1) (.string t1) (.slice X0 p0 c0) (.slice X1 p1 c1) (.slice X2 p2 c2)) := Lib.hid (by rw [← hW2]; exact (Lib.alloc_old _ _ _ (by simp)).trans (heap_alloc_new w _))
  have HEy : Hid (AB W2 (w.heap.size + 1) (.string OQ) (.slice Yn on2 yc) (.int .i64 k2) (.int .i64 m2) (.string s2) (.string t2) (.slice Y0 q0 d0) (.slice Y1 q1 d1) (.slice Y2 q2 d2)) := Lib.hid (by rw [← hW2]; have := heap_alloc_new (w.alloc (.cells #[.string OP, .slice Xn on1 xc, .int .i64 k1, .int .i64 m1, .string s1, .string t1, .slice X0 p0 c0, .slice X1 p1 c1, .slice X2 p2 c2] 81)) (.cells #[.string OQ, .slice Yn on2 yc, .int .i64 k2, .int .i64 m2, .string s2, .string t2, .slice Y0 q0 d0, .slice Y1 q1 d1, .slice Y2 q2 d2] 81); rwa [World.size_alloc] at this)
  obtain ⟨a0, a1, a2, a3, a4, a5, a6, a7, a8⟩ := HEx.out.c
  obtain ⟨b0, b1, b2, b3, b4, b5, b6, b7, b8⟩ := HEy.out.c
  have hzw : w.heap.size + 1 < W2.heap.size := by rw [← hW2]; simp
  have hV' : sameE x y = V := hV.symm
  clear h1 h2 hn1 hn2 hl hS hV
  by_cases e1 : u.1 = v.1
  case neg =>
    have HRf : Hid (R = false) := Lib.hid (by rw [hR, decide_eq_false (fun h => e1 (by rw [h]))]; rfl)
    have f9 : (OP.toList == OQ.toList) = false := by rw [hOP, hOQ, ByteArray.toList_eq, ByteArray.toList_eq, data_strB, data_strB]; exact beq_eq_false_iff_ne.2 e1
    clear hR hOP hOQ hon1 hon2 e1 hV'
    go_enter Tryz.func112, Tryz.ntmps112
    go_wp2_with fail
    go_ret
    exact ⟨by rw [HRf.out]; rfl, HB2.out⟩
  obtain rfl : OQ = OP := by rw [hOP, hOQ, e1]
  by_cases e2 : u.2 = v.2
  case neg =>
    have HRf : Hid (R = false) := Lib.hid (by rw [hR, decide_eq_false (fun h => e2 (by rw [h]))]; rfl)
    rw [show decide (u.2 = v.2) = false from decide_eq_false e2] at HNq
    clear hR hOP hOQ hon1 hon2 e1 e2 hV'
    go_enter Tryz.func112, Tryz.ntmps112
    go_wp2_with fail
    clear hW2
    refine (HNq.out W2 HB2.out).mono ?_
    rintro r w3 ⟨rfl, hb⟩
    have HB3 := Lib.hid (HB2.out.trans (hb.mono HB2.out.size))
    clear hb
    go_wp2_with fail
    go_ret
    exact ⟨by rw [HRf.out]; rfl, HB3.out⟩
  have HRv : Hid (R = V) := Lib.hid (by rw [hR, decide_eq_true (Prod.ext e1 e2), hV']; rfl)
  rw [show decide (u.2 = v.2) = true from decide_eq_true e2] at HNq
  clear hR hOP hOQ hon1 hon2 e1 e2 hV'
  go_enter Tryz.func112, Tryz.ntmps112
  go_wp2_with fail
  clear hW2
  refine (HNq.out W2 HB2.out).mono ?_
  rintro r w3 ⟨rfl, hb⟩
  have HB3 := Lib.hid (HB2.out.trans (hb.mono HB2.out.size))
  have HEx3 : Hid (AB w3 w.heap.size (.string OQ) (.slice Xn on1 xc) (.int .i64 k1) (.int .i64 m1) (.string s1) (.string t1) (.slice X0 p0 c0) (.slice X1 p1 c1) (.slice X2 p2 c2)) := Lib.hid ((hb.block _ (by omega)).trans HEx.out)
  have HEy3 : Hid (AB w3 (w.heap.size + 1) (.string OQ) (.slice Yn on2 yc) (.int .i64 k2) (.int .i64 m2) (.string s2) (.string t2) (.slice Y0 q0 d0) (.slice Y1 q1 d1) (.slice Y2 q2 d2)) := Lib.hid ((hb.block _ hzw).trans HEy.out)
  clear hb a0 a1 a2 a3 a4 a5 a6 a7 a8 b0 b1 b2 b3 b4 b5 b6 b7 b8
  obtain ⟨a0, a1, a2, a3, a4, a5, a6, a7, a8⟩ := HEx3.out.c
  obtain ⟨b0, b1, b2, b3, b4, b5, b6, b7, b8⟩ := HEy3.out.c
  go_wp2_with fail
  refine (HC.out w3 HB3.out).mono ?_
  rintro r w4 ⟨rfl, hb⟩
  have HB4 := Lib.hid (HB3.out.trans (hb.mono HB3.out.size))
  clear hb a0 a1 a2 a3 a4 a5 a6 a7 a8 b0 b1 b2 b3 b4 b5 b6 b7 b8
  go_wp2_with fail
  go_ret
  exact ⟨by rw [HRv.out]; rfl, HB4.out⟩
end Go.Proofs.YtndgoefhhjcllaaGreatDoor
/- The program's comparison of expressions. -/
namespace Go.Proofs.YtndgoefhhjcllaaGreatDoor
open Go.RowKit

set_option maxRecDepth 100000 in
set_option maxHeartbeats 8000000 in
theorem same_any : ∀ a : Ex, ∀ lv : Int, (hE a : Int) ≤ lv → lv ≤ 65536 → SaAt lv a := by
  refine Ex.ind fun a ih lv hlv hlv2 b cs1 cs2 w h1 h2 => ?_
  have hge : 1 ≤ hE a := by have := depth_parts a; omega
  have hpa : ∀ x ∈ a.parts, SaAt (lv - 1) x := fun x hx => ih x hx (lv - 1) (by have := hE_part hx; omega) (by omega)
  have hlv0 : 0 < lv := by omega
  clear hlv hge ih
  cases a with
  | mk k n s t ns l ops bs =>
  cases b with
  | mk k' n' s' t' ns' l' ops' bs' =>
  have hE := sameE_eq (.mk k n s t ns l ops bs) (.mk k' n' s' t' ns' l' ops' bs')
  have h1' := h1.tight.weaken (Q := fun b => b < w.heap.size) (fun x hx => hx.2)
  have h2' := h2.tight.weaken (Q := fun b => b < w.heap.size) (fun x hx => hx.2)
  obtain ⟨An, cn, Al, cl, Aa, ca, rfl, hf, hn, hl, ha, ho⟩ := h1'
  obtain ⟨Bn, dn, Bl, dl, Ba, da, rfl, hf', hn', hl', ha', ho'⟩ := h2'
  have bd1 : ns.length ≤ maxLen := Nat.le_trans hf.hcn.1 hf.hcn.2
  have bd1' : ns'.length ≤ maxLen := Nat.le_trans hf'.hcn.1 hf'.hcn.2
  have bd2 : l.length ≤ maxLen := Nat.le_trans hf.hcl.1 hf.hcl.2
  have bd2' : l'.length ≤ maxLen := Nat.le_trans hf'.hcl.1 hf'.hcl.2
  have bd3 : bs.length ≤ maxLen := Nat.le_trans hf.hca.1 hf.hca.2
  have bd3' : bs'.length ≤ maxLen := Nat.le_trans hf'.hca.1 hf'.hca.2
  have hPl := parts_of hl
  have hPl' := parts_of hl'
  have hPa := arms_of ha
  have hPa' := arms_of ha'
  obtain ⟨S, hS⟩ : ∃ S, S = strB s := ⟨_, rfl⟩
  obtain ⟨T, hT⟩ : ∃ S, S = strB t := ⟨_, rfl⟩
  obtain ⟨nn, hnn⟩ : ∃ q, q = ns.length := ⟨_, rfl⟩
  obtain ⟨nl, hnl⟩ : ∃ q, q = l.length := ⟨_, rfl⟩
  obtain ⟨nb, hnb⟩ : ∃ q, q = bs.length := ⟨_, rfl⟩
  obtain ⟨S', hS'⟩ : ∃ S, S = strB s' := ⟨_, rfl⟩
  obtain ⟨T', hT'⟩ : ∃ S, S = strB t' := ⟨_, rfl⟩
  obtain ⟨nn', hnn'⟩ : ∃ q, q = ns'.length := ⟨_, rfl⟩
  obtain ⟨nl', hnl'⟩ : ∃ q, q = l'.length := ⟨_, rfl⟩
  obtain ⟨nb', hnb'⟩ : ∃ q, q = bs'.length := ⟨_, rfl⟩
  have HNm : Hid (∀ w', Below w.heap.size w w' → Calls Tryz.prog 109 #[.slice An nn cn, .slice Bn nn' dn] w' fun e w2 => e = .returned (.bool (decide (ns = ns'))) ∧ Below w'.heap.size w' w2) := Lib.hid (fun w' hb => by
    rw [hnn, hnn']
    exact (eqNames_any _ _ An Bn cn dn ns ns' w' (hn.keep (Same.of_below hb)) (hn'.keep (Same.of_below hb)) ⟨bd1, bd1'⟩).mono fun e w2 h => ⟨h.1, h.2.below⟩)
  have HQl : Hid (∀ w', Below w.heap.size w w' → Calls Tryz.prog 110 #[.slice Al nl cl, .slice Bl nl' dl, .func (.func 49) #[.int .i64 (lv - 1)] #[]] w' fun e w2 => e = .returned (.bool (sameL l l')) ∧ Below w'.heap.size w' w2) := Lib.hid (fun w' hb => by
    rw [hnl, hnl']
    exact eqE_any (lv - 1) l l' (fun x hx => hpa x (List.mem_append_left _ hx)) Al Bl cl dl w.heap.size w' (hPl.below hb) (hPl'.below hb) bd2 bd2')
  have HQa : Hid (∀ w', Below w.heap.size w w' → Calls Tryz.prog 111 #[.slice Aa nb ca, .slice Ba nb' da, .func (.func 112) #[.int .i64 (lv - 1)] #[]] w' fun e w2 => e = .returned (.bool (sameA ops bs ops' bs')) ∧ Below w'.heap.size w' w2) := Lib.hid (fun w' hb => by
    rw [hnb, hnb']
    exact eqA_any (lv - 1) ops ops' bs bs' (fun x hx => sameArm_any (lv - 1) x (hpa x (List.mem_append_right _ hx))) Aa Ba ca da w.heap.size w' (hPa.below hb) (hPa'.below hb) ho ho' bd3 bd3')
  obtain ⟨R, hR⟩ : ∃ R, R = sameE (.mk k n s t ns l ops bs) (.mk k' n' s' t' ns' l' ops' bs') := ⟨_, rfl⟩
  obtain ⟨V1, hV1⟩ : ∃ R, R = sameL l l' := ⟨_, rfl⟩
  obtain ⟨V2, hV2⟩ : ∃ R, R = sameA ops bs ops' bs' := ⟨_, rfl⟩
  show Calls Tryz.prog 49 #[.int .i64 lv, .agg #[.int .i64 k, .int .i64 n, .string (strB s), .string (strB t), .slice An ns.length cn, .slice Al l.length cl, .slice Aa bs.length ca], .agg #[.int .i64 k', .int .i64 n', .string (strB s'), .string (strB t'), .slice Bn ns'.length dn, .slice Bl l'.length dl, .slice Ba bs'.length da]] w fun r w' => r = .returned (.bool (sameE (.mk k n s t ns l ops bs) (.mk k' n' s' t' ns' l' ops' bs'))) ∧ Below w.heap.size w w'
  rw [← hR, ← hS, ← hS', ← hT, ← hT', ← hnn, ← hnn', ← hnl, ← hnl', ← hnb, ← hnb']
  rw [← hR] at hE
  rw [← hV1] at HQl
  rw [← hV2] at HQa
  have HB2 : Hid (Below w.heap.size w ((w.alloc (.cells #[.int .i64 k, .int .i64 n, .string S, .string T, .slice An nn cn, .slice Al nl cl, .slice Aa nb ca] 27)).alloc (.cells #[.int .i64 k', .int .i64 n', .string S', .string T', .slice Bn nn' dn, .slice Bl nl' dl, .slice Ba nb' da] 27))) := Lib.hid (((Below.refl _ _).alloc (Nat.le_refl _) _).alloc (by simp) _)
  obtain ⟨W2, hW2⟩ : ∃ W, (w.alloc (.cells #[.int .i64 k, .int .i64 n, .string S, .string T, .slice An nn cn, .slice Al nl cl, .slice Aa nb ca] 27)).alloc (.cells #[.int .i64 k', .int .i64 n', .string S', .string T', .slice Bn nn' dn, .slice Bl nl' dl, .slice Ba nb' da] 27) = W := ⟨_, rfl⟩
  have HEa : Hid (EB W2 w.heap.size (.int .i64 k) (.int .i64 n) (.string S) (.string T) (.slice An nn cn) (.slice Al nl cl) (.slice Aa nb ca)) := Lib.hid (by rw [← hW2]; exact (EB.new w _ _ _ _ _ _ _).kept (World.grownBy_alloc _ _ none) (by simp))
  have HEb : Hid (EB W2 (w.heap.size + 1) (.int .i64 k') (.int .i64 n') (.string S') (.string T') (.slice Bn nn' dn) (.slice Bl nl' dl) (.slice Ba nb' da)) := Lib.hid (by rw [← hW2]; have := EB.new (w.alloc (.cells #[.int .i64 k, .int .i64 n, .string S, .string T, .slice An nn cn, .slice Al nl cl, .slice Aa nb ca] 27)) (.int .i64 k') (.int .i64 n') (.string S') (.string T') (.slice Bn nn' dn) (.slice Bl nl' dl) (.slice Ba nb' da); rwa [World.size_alloc] at this)
  rw [hW2] at HB2
  have hwr : IntKind.i64.wrap (lv - 1) = lv - 1 := IntWalk.i64_in _ (by omega)
  have hd0 : decide (0 < lv) = true := decide_eq_true hlv0
  have a0 := HEa.out.c0
  have b0 := HEb.out.c0
  have a1 := HEa.out.c1
  have b1 := HEb.out.c1
  have a2 := HEa.out.c2
  have b2 := HEb.out.c2
  have a3 := HEa.out.c3
  have b3 := HEb.out.c3
  have a4 := HEa.out.c4
  have b4 := HEb.out.c4
  have a5 := HEa.out.c5
  have b5 := HEb.out.c5
  have a6 := HEa.out.c6
  have b6 := HEb.out.c6
  clear bd1 bd1' bd2 bd2' bd3 bd3' hf hf' hn hn' hl hl' ha ha' h1 h2 hPl hPl' hPa hPa' ho ho' hpa
  by_cases ek : k = k'
  case neg =>
    have HR : Hid (R = false) := Lib.hid (by rw [hE, show hdE _ _ = false from by simp [hdE, Ex.k, Ex.n, Ex.s, Ex.t, Ex.ns, ek]]; rfl)
    have f1 : (k == k') = false := by simpa using ek
    clear hS hS' hT hT' hnn hnn' hnl hnl' hnb hnb' hR hE hV1 hV2 ek
    go_enter Tryz.func49, Tryz.ntmps49
    go_wp2_with fail
    go_ret
    exact ⟨by rw [HR.out]; rfl, HB2.out⟩
  subst ek
  by_cases en : n = n'
  case neg =>
    have HR : Hid (R = false) := Lib.hid (by rw [hE, show hdE _ _ = false from by simp [hdE, Ex.k, Ex.n, Ex.s, Ex.t, Ex.ns, en]]; rfl)
    have f1 : (n == n') = false := by simpa using en
    clear hS hS' hT hT' hnn hnn' hnl hnl' hnb hnb' hR hE hV1 hV2 en
    go_enter Tryz.func49, Tryz.ntmps49
    go_wp2_with fail
    go_ret
    exact ⟨by rw [HR.out]; rfl, HB2.out⟩
  subst en
  by_cases es : s = s'
  case neg =>
    have HR : Hid (R = false) := Lib.hid (by rw [hE, show hdE _ _ = false from by simp [hdE, Ex.k, Ex.n, Ex.s, Ex.t, Ex.ns, es]]; rfl)
    have f0 : (S.toList == S'.toList) = false := by rw [hS, hS', ByteArray.toList_eq, ByteArray.toList_eq, data_strB, data_strB]; exact beq_eq_false_iff_ne.2 es
    clear hS hS' hT hT' hnn hnn' hnl hnl' hnb hnb' hR hE hV1 hV2 es
    go_enter Tryz.func49, Tryz.ntmps49
    go_wp2_with fail
    go_ret
    exact ⟨by rw [HR.out]; rfl, HB2.out⟩
  subst es
  obtain rfl : S' = S := by rw [hS, hS']
  by_cases et : t = t'
  case neg =>
    have HR : Hid (R = false) := Lib.hid (by rw [hE, show hdE _ _ = false from by simp [hdE, Ex.k, Ex.n, Ex.s, Ex.t, Ex.ns, et]]; rfl)
    have f0 : (T.toList == T'.toList) = false := by rw [hT, hT', ByteArray.toList_eq, ByteArray.toList_eq, data_strB, data_strB]; exact beq_eq_false_iff_ne.2 et
    clear hS hS' hT hT' hnn hnn' hnl hnl' hnb hnb' hR hE hV1 hV2 et
    go_enter Tryz.func49, Tryz.ntmps49
    go_wp2_with fail
    go_ret
    exact ⟨by rw [HR.out]; rfl, HB2.out⟩
  subst et
  obtain rfl : T' = T := by rw [hT, hT']
  by_cases ens : ns = ns'
  case neg =>
    have HR : Hid (R = false) := Lib.hid (by rw [hE, show hdE _ _ = false from by simp [hdE, Ex.k, Ex.n, Ex.s, Ex.t, Ex.ns, ens]]; rfl)
    rw [show decide (ns = ns') = false from decide_eq_false ens] at HNm
    clear hS hS' hT hT' hnn hnn' hnl hnl' hnb hnb' hR hE hV1 hV2 ens
    go_enter Tryz.func49, Tryz.ntmps49
    go_wp2_with fail
    clear hW2
    refine (HNm.out _ HB2.out).mono ?_
    rintro r w3 ⟨rfl, hb⟩
    have HB3 := Lib.hid (HB2.out.trans (hb.mono HB2.out.size))
    clear hb a0 a1 a2 a3 a4 a5 a6 b0 b1 b2 b3 b4 b5 b6
    go_wp2_with fail
    go_ret
    exact ⟨by rw [HR.out]; rfl, HB3.out⟩
  rw [show decide (ns = ns') = true from decide_eq_true ens] at HNm
  have HRt : Hid (R = (V1 && V2)) := Lib.hid (by rw [hE, hV1, hV2, show hdE _ _ = true from by simp [hdE, Ex.k, Ex.n, Ex.s, Ex.t, Ex.ns, ens]]; rfl)
  clear hS hS' hT hT' hnn hnn' hnl hnl' hnb hnb' hR hE hV1 hV2 ens
  cases V1 with
  | false =>
    have HR : Hid (R = false) := Lib.hid (by rw [HRt.out]; rfl)
    go_enter Tryz.func49, Tryz.ntmps49
    go_wp2_with fail
    clear hW2
    refine (HNm.out _ HB2.out).mono ?_
    rintro r w3 ⟨rfl, hb⟩
    have HB3 := Lib.hid (HB2.out.trans (hb.mono HB2.out.size))
    have HEa3 := Lib.hid (HEa.out.kept (grown_below hb none) (by simp))
    have HEb3 := Lib.hid (HEb.out.kept (grown_below hb none) (by simp))
    clear hb a0 a1 a2 a3 a4 a5 a6 b0 b1 b2 b3 b4 b5 b6
    have a0 := HEa3.out.c0
    have b0 := HEb3.out.c0
    have a1 := HEa3.out.c1
    have b1 := HEb3.out.c1
    have a2 := HEa3.out.c2
    have b2 := HEb3.out.c2
    have a3 := HEa3.out.c3
    have b3 := HEb3.out.c3
    have a4 := HEa3.out.c4
    have b4 := HEb3.out.c4
    have a5 := HEa3.out.c5
    have b5 := HEb3.out.c5
    have a6 := HEa3.out.c6
    have b6 := HEb3.out.c6
    go_wp2_with fail
    refine (HQl.out _ HB3.out).mono ?_
    rintro r w4 ⟨rfl, hb⟩
    have HB4 := Lib.hid (HB3.out.trans (hb.mono HB3.out.size))
    clear hb a0 a1 a2 a3 a4 a5 a6 b0 b1 b2 b3 b4 b5 b6
    go_wp2_with fail
    go_ret
    exact ⟨by rw [HR.out]; rfl, HB4.out⟩
  | true =>
    have HR : Hid (R = V2) := Lib.hid (by rw [HRt.out]; rfl)
    go_enter Tryz.func49, Tryz.ntmps49
    go_wp2_with fail
    clear hW2
    refine (HNm.out _ HB2.out).mono ?_
    rintro r w3 ⟨rfl, hb⟩
    have HB3 := Lib.hid (HB2.out.trans (hb.mono HB2.out.size))
    have HEa3 := Lib.hid (HEa.out.kept (grown_below hb none) (by simp))
    have HEb3 := Lib.hid (HEb.out.kept (grown_below hb none) (by simp))
    clear hb a0 a1 a2 a3 a4 a5 a6 b0 b1 b2 b3 b4 b5 b6
    have a0 := HEa3.out.c0
    have b0 := HEb3.out.c0
    have a1 := HEa3.out.c1
    have b1 := HEb3.out.c1
    have a2 := HEa3.out.c2
    have b2 := HEb3.out.c2
    have a3 := HEa3.out.c3
    have b3 := HEb3.out.c3
    have a4 := HEa3.out.c4
    have b4 := HEb3.out.c4
    have a5 := HEa3.out.c5
    have b5 := HEb3.out.c5
    have a6 := HEa3.out.c6
    have b6 := HEb3.out.c6
    go_wp2_with fail
    refine (HQl.out _ HB3.out).mono ?_
    rintro r w4 ⟨rfl, hb⟩
    have HB4 := Lib.hid (HB3.out.trans (hb.mono HB3.out.size))
    have HEa4 := Lib.hid (HEa3.out.kept (grown_below hb none) (by simp))
    have HEb4 := Lib.hid (HEb3.out.kept (grown_below hb none) (by simp))
    clear hb a0 a1 a2 a3 a4 a5 a6 b0 b1 b2 b3 b4 b5 b6
    have a0 := HEa4.out.c0
    have b0 := HEb4.out.c0
    have a1 := HEa4.out.c1
    have b1 := HEb4.out.c1
    have a2 := HEa4.out.c2
    have b2 := HEb4.out.c2
    have a3 := HEa4.out.c3
    have b3 := HEb4.out.c3
    have a4 := HEa4.out.c4
    have b4 := HEb4.out.c4
    have a5 := HEa4.out.c5
    have b5 := HEb4.out.c5
    have a6 := HEa4.out.c6
    have b6 := HEb4.out.c6
    go_wp2_with fail
    refine (HQa.out _ HB4.out).mono ?_
    rintro r w5 ⟨rfl, hb⟩
    have HB5 := Lib.hid (HB4.out.trans (hb.mono HB4.out.size))
    clear hb a0 a1 a2 a3 a4 a5 a6 b0 b1 b2 b3 b4 b5 b6
    go_wp2_with fail
    go_ret
    exact ⟨by rw [HR.out]; rfl, HB5.out⟩
end Go.Proofs.YtndgoefhhjcllaaGreatDoor
/- slices.EqualFunc of types. -/
namespace Go.Proofs.YtndgoefhhjcllaaGreatDoor
open Go.RowKit

/-- what the program's comparison of types answers at a level -/
def TyAt (lv : Int) (a : Ty) : Prop := ∀ (b : Ty) (cs1 cs2 : List Value) (w : World), RepT (fun _ => True) w a cs1 → RepT (fun _ => True) w b cs2 → Calls Tryz.prog 51 #[.int .i64 lv, .agg cs1.toArray, .agg cs2.toArray] w fun r w' => r = .returned (.bool (sameT a b)) ∧ Below w.heap.size w w'
set_option maxRecDepth 100000 in
set_option maxHeartbeats 4000000 in
theorem eqT_any (lv : Int) (l l' : List Ty) (hS : ∀ x ∈ l, TyAt lv x) (A A' : Option Addr) (c c' B : Nat) (w : World) (hP : TParts B w A l) (hP' : TParts B w A' l') (hl : l.length ≤ maxLen) (_ : l'.length ≤ maxLen) :
    Calls Tryz.prog 113 #[.slice A l.length c, .slice A' l'.length c', .func (.func 51) #[.int .i64 lv] #[]] w fun e w' => e = .returned (.bool (sameTL l l')) ∧ Below w.heap.size w w' := by
  obtain ⟨n, hn⟩ : ∃ n, n = l.length := ⟨_, rfl⟩
  obtain ⟨m, hm⟩ : ∃ n, n = l'.length := ⟨_, rfl⟩
  have HN := Lib.hid hn
  have HM := Lib.hid hm
  have HP := Lib.hid hP
  have HP' := Lib.hid hP'
  have HS := Lib.hid hS
  obtain ⟨R, hR⟩ : ∃ R, R = sameTL l l' := ⟨_, rfl⟩
  have HR := Lib.hid hR
  rw [← hn, ← hm, ← hR]
  unfold maxLen at hl
  have hnb : (n : Int) ≤ 9223372036854775807 := by omega
  clear hP hP' hS hR hl hn hm
  by_cases hnm : n = m
  case neg =>
    have HRf : Hid (R = false) := Lib.hid (by
      rw [HR.out]
      cases hq : sameTL l l' with
      | false => rfl
      | true => exact absurd (by rw [HN.out, HM.out]; exact sameTL_len hq) hnm)
    have f1 : ((n : Int) != (m : Int)) = true := by simp; omega
    have f2 : ((n : Int) == (m : Int)) = false := by simp; omega
    clear hnm
    go_enter Tryz.func113, Tryz.ntmps113
    go_wp2_with fail
    go_ret
    exact ⟨by rw [HRf.out]; rfl, Below.refl _ _⟩
  subst hnm
  have f1 : ((n : Int) != (n : Int)) = false := by simp
  go_enter Tryz.func113, Tryz.ntmps113
  go_wp2_with fail
  go_loopw [17] (fun i wr => ∃ kk : Nat, kk ≤ n ∧ i = .int .i64 (kk : Int) ∧ Hid (Below w.heap.size w wr) ∧ Hid (sameTL (l.take kk) (l'.take kk) = true)) (fun i _ => n - (intOf i).toNat)
  case atStart => exact ⟨0, Nat.zero_le _, rfl, Lib.hid (Below.refl _ _), Lib.hid rfl⟩
  case round =>
    obtain ⟨kk, hkk, rfl, hB, hSm⟩ := hrel
    have j0 : (0 : Int) ≤ (kk : Int) := by omega
    by_cases hkl : kk < n
    case pos =>
      have hk1 : kk < l.length := by rw [← HN.out]; exact hkl
      have hk2 : kk < l'.length := by rw [← HM.out]; exact hkl
      have j1 : (kk : Int) < (n : Int) := by omega
      obtain ⟨x, hx⟩ : ∃ x, x = l[kk] := ⟨_, rfl⟩
      obtain ⟨y, hy⟩ : ∃ x, x = l'[kk] := ⟨_, rfl⟩
      have hxl : l[kk]? = some x := by rw [hx]; exact List.getElem?_eq_getElem hk1
      have hyl : l'[kk]? = some y := by rw [hy]; exact List.getElem?_eq_getElem hk2
      obtain ⟨b, off, rfl⟩ := HP.out.addr (by omega)
      obtain ⟨b', off', rfl⟩ := HP'.out.addr (by omega)
      obtain ⟨hbx, k1, m1, s1, X0, p0, c0, X1, p1, c1, t1, hcx⟩ := HP.out.at hxl
      obtain ⟨hby, k2, m2, s2, Y0, q0, d0, Y1, q1, d1, t2, hcy⟩ := HP'.out.at hyl
      obtain ⟨f0, f1, f2, f3, f4, f5⟩ := hcx.up hbx hB.out
      obtain ⟨g0, g1, g2, g3, g4, g5⟩ := hcy.up hby hB.out
      have hbx2 : b < wr.heap.size := Nat.lt_of_lt_of_le hbx hB.out.size
      have hby2 : b' < wr.heap.size := Nat.lt_of_lt_of_le hby hB.out.size
      obtain ⟨V, hV⟩ : ∃ V, V = sameT x y := ⟨_, rfl⟩
      obtain ⟨W2, hW2⟩ : ∃ W, ((wr.alloc (.cells #[.int .i64 k1, .int .i64 m1, .string s1, .slice X0 p0 c0, .slice X1 p1 c1, .int .i64 t1] 41)).alloc (.cells #[.int .i64 k2, .int .i64 m2, .string s2, .slice Y0 q0 d0, .slice Y1 q1 d1, .int .i64 t2] 41)) = W := ⟨_, rfl⟩
      have HBW : Hid (Below wr.heap.size wr W2) := Lib.hid (by rw [← hW2]; exact ((Below.refl _ _).alloc (Nat.le_refl _) _).alloc (by simp) _)
      have HEx : Hid (TyBx W2 wr.heap.size (.int .i64 k1) (.int .i64 m1) (.string s1) (.slice X0 p0 c0) (.slice X1 p1 c1) (.int .i64 t1)) := Lib.hid (by rw [← hW2]; exact (TyBx.new wr _ _ _ _ _ _).kept (World.grownBy_alloc _ _ none) (by simp))
      have HEy : Hid (TyBx W2 (wr.heap.size + 1) (.int .i64 k2) (.int .i64 m2) (.string s2) (.slice Y0 q0 d0) (.slice Y1 q1 d1) (.int .i64 t2)) := Lib.hid (by rw [← hW2]; have := TyBx.new (wr.alloc (.cells #[.int .i64 k1, .int .i64 m1, .string s1, .slice X0 p0 c0, .slice X1 p1 c1, .int .i64 t1] 41)) (.int .i64 k2) (.int .i64 m2) (.string s2) (.slice Y0 q0 d0) (.slice Y1 q1 d1) (.int .i64 t2); rwa [World.size_alloc] at this)
      obtain ⟨a0, a1, a2, a3, a4, a5⟩ := HEx.out.c
      obtain ⟨b0, b1, b2, b3, b4, b5⟩ := HEy.out.c
      have HC : Hid (Calls Tryz.prog 51 #[.int .i64 lv, .agg #[.int .i64 k1, .int .i64 m1, .string s1, .slice X0 p0 c0, .slice X1 p1 c1, .int .i64 t1], .agg #[.int .i64 k2, .int .i64 m2, .string s2, .slice Y0 q0 d0, .slice Y1 q1 d1, .int .i64 t2]] W2 fun r w2 => r = .returned (.bool V) ∧ Below W2.heap.size W2 w2) := Lib.hid (by
        have hb : Below w.heap.size w W2 := hB.out.trans (HBW.out.mono hB.out.size)
        rw [hV]
        exact HS.out x (List.mem_of_getElem? hxl) y _ _ W2 ((hcx.rep.weaken (Q := fun _ => True) (fun _ _ => trivial)).keep (Same.of_below hb)) ((hcy.rep.weaken (Q := fun _ => True) (fun _ _ => trivial)).keep (Same.of_below hb)))
      have HPart : Hid (V = false → R = false) := Lib.hid (fun h => by rw [HR.out]; exact sameTL_part kk x y hxl hyl (by rw [← hV]; exact h))
      have HTk : Hid (sameTL (l.take (kk + 1)) (l'.take (kk + 1)) = (sameTL (l.take kk) (l'.take kk) && V)) := Lib.hid (by rw [take_succ_of hk1, take_succ_of hk2, ← hx, ← hy, sameTL_snoc x y (by rw [List.length_take, List.length_take]; omega), hV])
      clear hx hy hxl hyl hcx hcy hV
      cases V with
      | false =>
        have HRf := Lib.hid (HPart.out rfl)
        go_wp2_with fail
        clear hW2
        refine HC.out.mono ?_
        rintro e w3 ⟨rfl, hb⟩
        have HB3 := Lib.hid (hB.out.trans ((HBW.out.trans (hb.mono HBW.out.size)).mono hB.out.size))
        clear hb
        clear a0 a1 a2 a3 a4 a5 b0 b1 b2 b3 b4 b5
        go_wp2_with fail
        go_ret
        exact ⟨by rw [HRf.out]; rfl, HB3.out⟩
      | true =>
        go_wp2_with fail
        clear hW2
        refine HC.out.mono ?_
        rintro e w3 ⟨rfl, hb⟩
        have HB3 := Lib.hid (hB.out.trans ((HBW.out.trans (hb.mono HBW.out.size)).mono hB.out.size))
        clear hb
        clear a0 a1 a2 a3 a4 a5 b0 b1 b2 b3 b4 b5
        go_wp2_with fail
        go_roundw
        case rel => exact ⟨kk + 1, by omega, by go_num, HB3, Lib.hid (by rw [HTk.out, hSm.out]; rfl)⟩
        case measure => simp [intOf]; omega
    case neg =>
      obtain rfl : kk = n := by omega
      have HRt : Hid (R = true) := Lib.hid (by
        have h := hSm.out
        rw [List.take_of_length_le (by rw [← HN.out]; exact Nat.le_refl _), List.take_of_length_le (by rw [← HM.out]; exact Nat.le_refl _)] at h
        rw [HR.out, h])
      go_wp2_with fail
      go_ret
      exact ⟨by rw [HRt.out]; rfl, hB.out⟩
end Go.Proofs.YtndgoefhhjcllaaGreatDoor
/- The program's comparison of types. -/
namespace Go.Proofs.YtndgoefhhjcllaaGreatDoor
open Go.RowKit

theorem hT_part {a x : Ty} (h : x ∈ a.l) : hT x + 1 ≤ hT a := by
  rw [hT_eq a]; have := hTL_mem h; omega
set_option maxRecDepth 100000 in
set_option maxHeartbeats 8000000 in
theorem sameType_any : ∀ a : Ty, ∀ lv : Int, (hT a : Int) ≤ lv → lv ≤ 65536 → TyAt lv a := by
  refine Ty.ind fun a ih lv hlv hlv2 b cs1 cs2 w h1 h2 => ?_
  have hge : 1 ≤ hT a := by rw [hT_eq]; omega
  have hpa : ∀ x ∈ a.l, TyAt (lv - 1) x := fun x hx => ih x hx (lv - 1) (by have := hT_part hx; omega) (by omega)
  have hlv0 : 0 < lv := by omega
  clear hlv hge ih
  cases a with
  | mk k n s l ls tl =>
  cases b with
  | mk k' n' s' l' ls' tl' =>
  have hE := sameT_eq (.mk k n s l ls tl) (.mk k' n' s' l' ls' tl')
  obtain ⟨Al, cl, Ar, cr, rfl, hf, hls, hl⟩ := h1.tight
  obtain ⟨Bl, dl, Br, dr, rfl, hf', hls', hl'⟩ := h2.tight
  have bd2 : l.length ≤ maxLen := Nat.le_trans hf.hcl.1 hf.hcl.2
  have bd2' : l'.length ≤ maxLen := Nat.le_trans hf'.hcl.1 hf'.hcl.2
  have bd3 : ls.length ≤ maxLen := Nat.le_trans hf.hcr.1 hf.hcr.2
  have bd3' : ls'.length ≤ maxLen := Nat.le_trans hf'.hcr.1 hf'.hcr.2
  have hPl : TParts w.heap.size w Al l := tparts_of hl
  have hPl' : TParts w.heap.size w Bl l' := tparts_of hl'
  obtain ⟨S, hS⟩ : ∃ S, S = strB s := ⟨_, rfl⟩
  obtain ⟨nl, hnl⟩ : ∃ q, q = l.length := ⟨_, rfl⟩
  obtain ⟨nr, hnr⟩ : ∃ q, q = ls.length := ⟨_, rfl⟩
  obtain ⟨S', hS'⟩ : ∃ S, S = strB s' := ⟨_, rfl⟩
  obtain ⟨nl', hnl'⟩ : ∃ q, q = l'.length := ⟨_, rfl⟩
  obtain ⟨nr', hnr'⟩ : ∃ q, q = ls'.length := ⟨_, rfl⟩
  have HQr : Hid (∀ w', Below w.heap.size w w' → Calls Tryz.prog 114 #[.slice Ar nr cr, .slice Br nr' dr] w' fun e w2 => e = .returned (.bool (decide (ls = ls'))) ∧ Below w'.heap.size w' w2) := Lib.hid (fun w' hb => by
    rw [hnr, hnr']
    exact eqLabs_any _ _ Ar Br cr dr ls ls' w' (hls.keep (Same.of_below hb)) (hls'.keep (Same.of_below hb)) ⟨bd3, bd3'⟩)
  have HQl : Hid (∀ w', Below w.heap.size w w' → Calls Tryz.prog 113 #[.slice Al nl cl, .slice Bl nl' dl, .func (.func 51) #[.int .i64 (lv - 1)] #[]] w' fun e w2 => e = .returned (.bool (sameTL l l')) ∧ Below w'.heap.size w' w2) := Lib.hid (fun w' hb => by
    rw [hnl, hnl']
    exact eqT_any (lv - 1) l l' hpa Al Bl cl dl w.heap.size w' (hPl.below hb) (hPl'.below hb) bd2 bd2')
  obtain ⟨R, hR⟩ : ∃ R, R = sameT (.mk k n s l ls tl) (.mk k' n' s' l' ls' tl') := ⟨_, rfl⟩
  obtain ⟨V1, hV1⟩ : ∃ R, R = sameTL l l' := ⟨_, rfl⟩
  show Calls Tryz.prog 51 #[.int .i64 lv, .agg #[.int .i64 k, .int .i64 n, .string (strB s), .slice Al l.length cl, .slice Ar ls.length cr, .int .i64 tl], .agg #[.int .i64 k', .int .i64 n', .string (strB s'), .slice Bl l'.length dl, .slice Br ls'.length dr, .int .i64 tl']] w fun r w' => r = .returned (.bool (sameT (.mk k n s l ls tl) (.mk k' n' s' l' ls' tl'))) ∧ Below w.heap.size w w'
  rw [← hR, ← hS, ← hS', ← hnl, ← hnl', ← hnr, ← hnr']
  rw [← hR] at hE
  rw [← hV1] at HQl
  have HB2 : Hid (Below w.heap.size w ((w.alloc (.cells #[.int .i64 k, .int .i64 n, .string S, .slice Al nl cl, .slice Ar nr cr, .int .i64 tl] 41)).alloc (.cells #[.int .i64 k', .int .i64 n', .string S', .slice Bl nl' dl, .slice Br nr' dr, .int .i64 tl'] 41))) := Lib.hid (((Below.refl _ _).alloc (Nat.le_refl _) _).alloc (by simp) _)
  obtain ⟨W2, hW2⟩ : ∃ W, (w.alloc (.cells #[.int .i64 k, .int .i64 n, .string S, .slice Al nl cl, .slice Ar nr cr, .int .i64 tl] 41)).alloc (.cells #[.int .i64 k', .int .i64 n', .string S', .slice Bl nl' dl, .slice Br nr' dr, .int .i64 tl'] 41) = W := ⟨_, rfl⟩
  have HEa : Hid (TyBx W2 w.heap.size (.int .i64 k) (.int .i64 n) (.string S) (.slice Al nl cl) (.slice Ar nr cr) (.int .i64 tl)) := Lib.hid (by rw [← hW2]; exact (TyBx.new w _ _ _ _ _ _).kept (World.grownBy_alloc _ _ none) (by simp))
  have HEb : Hid (TyBx W2 (w.heap.size + 1) (.int .i64 k') (.int .i64 n') (.string S') (.slice Bl nl' dl) (.slice Br nr' dr) (.int .i64 tl')) := Lib.hid (by rw [← hW2]; have := TyBx.new (w.alloc (.cells #[.int .i64 k, .int .i64 n, .string S, .slice Al nl cl, .slice Ar nr cr, .int .i64 tl] 41)) (.int .i64 k') (.int .i64 n') (.string S') (.slice Bl nl' dl) (.slice Br nr' dr) (.int .i64 tl'); rwa [World.size_alloc] at this)
  rw [hW2] at HB2
  have hwr : IntKind.i64.wrap (lv - 1) = lv - 1 := IntWalk.i64_in _ (by omega)
  have hd0 : decide (0 < lv) = true := decide_eq_true hlv0
  obtain ⟨a0, a1, a2, a3, a4, a5⟩ := HEa.out.c
  obtain ⟨b0, b1, b2, b3, b4, b5⟩ := HEb.out.c
  clear bd2 bd2' bd3 bd3' hf hf' hl hl' hls hls' h1 h2 hPl hPl' hpa
  by_cases ek : k = k'
  case neg =>
    have HR : Hid (R = false) := Lib.hid (by rw [hE, show hdT _ _ = false from by simp [hdT, Ty.k, Ty.n, Ty.s, Ty.ls, Ty.tl, ek]]; rfl)
    have f1 : (k == k') = false := by simpa using ek
    clear hS hS' hnl hnl' hnr hnr' hR hE hV1 ek
    go_enter Tryz.func51, Tryz.ntmps51
    go_wp2_with fail
    go_ret
    exact ⟨by rw [HR.out]; rfl, HB2.out⟩
  subst ek
  by_cases en : n = n'
  case neg =>
    have HR : Hid (R = false) := Lib.hid (by rw [hE, show hdT _ _ = false from by simp [hdT, Ty.k, Ty.n, Ty.s, Ty.ls, Ty.tl, en]]; rfl)
    have f1 : (n == n') = false := by simpa using en
    clear hS hS' hnl hnl' hnr hnr' hR hE hV1 en
    go_enter Tryz.func51, Tryz.ntmps51
    go_wp2_with fail
    go_ret
    exact ⟨by rw [HR.out]; rfl, HB2.out⟩
  subst en
  by_cases es : s = s'
  case neg =>
    have HR : Hid (R = false) := Lib.hid (by rw [hE, show hdT _ _ = false from by simp [hdT, Ty.k, Ty.n, Ty.s, Ty.ls, Ty.tl, es]]; rfl)
    have f0 : (S.toList == S'.toList) = false := by rw [hS, hS', ByteArray.toList_eq, ByteArray.toList_eq, data_strB, data_strB]; exact beq_eq_false_iff_ne.2 es
    clear hS hS' hnl hnl' hnr hnr' hR hE hV1 es
    go_enter Tryz.func51, Tryz.ntmps51
    go_wp2_with fail
    go_ret
    exact ⟨by rw [HR.out]; rfl, HB2.out⟩
  subst es
  obtain rfl : S' = S := by rw [hS, hS']
  cases V1 with
  | false =>
    have HR : Hid (R = false) := Lib.hid (by rw [hE]; show (_ && sameTL l l') = false; rw [← hV1, Bool.and_false])
    clear hS hS' hnl hnl' hnr hnr' hR hE hV1
    go_enter Tryz.func51, Tryz.ntmps51
    go_wp2_with fail
    clear hW2
    refine (HQl.out _ HB2.out).mono ?_
    rintro r w3 ⟨rfl, hb⟩
    have HB3 := Lib.hid (HB2.out.trans (hb.mono HB2.out.size))
    clear hb a0 a1 a2 a3 a4 a5 b0 b1 b2 b3 b4 b5
    go_wp2_with fail
    go_ret
    exact ⟨by rw [HR.out]; rfl, HB3.out⟩
  | true =>
    by_cases els : ls = ls'
    case neg =>
      have HR : Hid (R = false) := Lib.hid (by rw [hE, show hdT _ _ = false from by simp [hdT, Ty.k, Ty.n, Ty.s, Ty.ls, Ty.tl, els]]; rfl)
      rw [show decide (ls = ls') = false from decide_eq_false els] at HQr
      clear hS hS' hnl hnl' hnr hnr' hR hE hV1 els
      go_enter Tryz.func51, Tryz.ntmps51
      go_wp2_with fail
      clear hW2
      refine (HQl.out _ HB2.out).mono ?_
      rintro r w3 ⟨rfl, hb⟩
      have HB3 := Lib.hid (HB2.out.trans (hb.mono HB2.out.size))
      have HEa3 := Lib.hid (HEa.out.kept (grown_below hb none) (by simp))
      have HEb3 := Lib.hid (HEb.out.kept (grown_below hb none) (by simp))
      clear hb a0 a1 a2 a3 a4 a5 b0 b1 b2 b3 b4 b5
      obtain ⟨a0, a1, a2, a3, a4, a5⟩ := HEa3.out.c
      obtain ⟨b0, b1, b2, b3, b4, b5⟩ := HEb3.out.c
      go_wp2_with fail
      refine (HQr.out _ HB3.out).mono ?_
      rintro r w4 ⟨rfl, hb⟩
      have HB4 := Lib.hid (HB3.out.trans (hb.mono HB3.out.size))
      clear hb a0 a1 a2 a3 a4 a5 b0 b1 b2 b3 b4 b5
      go_wp2_with fail
      go_ret
      exact ⟨by rw [HR.out]; rfl, HB4.out⟩
    rw [show decide (ls = ls') = true from decide_eq_true els] at HQr
    by_cases etl : tl = tl'
    case neg =>
      have HR : Hid (R = false) := Lib.hid (by rw [hE, show hdT _ _ = false from by simp [hdT, Ty.k, Ty.n, Ty.s, Ty.ls, Ty.tl, etl]]; rfl)
      have f1 : (tl == tl') = false := by simpa using etl
      clear hS hS' hnl hnl' hnr hnr' hR hE hV1 els etl
      go_enter Tryz.func51, Tryz.ntmps51
      go_wp2_with fail
      clear hW2
      refine (HQl.out _ HB2.out).mono ?_
      rintro r w3 ⟨rfl, hb⟩
      have HB3 := Lib.hid (HB2.out.trans (hb.mono HB2.out.size))
      have HEa3 := Lib.hid (HEa.out.kept (grown_below hb none) (by simp))
      have HEb3 := Lib.hid (HEb.out.kept (grown_below hb none) (by simp))
      clear hb a0 a1 a2 a3 a4 a5 b0 b1 b2 b3 b4 b5
      obtain ⟨a0, a1, a2, a3, a4, a5⟩ := HEa3.out.c
      obtain ⟨b0, b1, b2, b3, b4, b5⟩ := HEb3.out.c
      go_wp2_with fail
      refine (HQr.out _ HB3.out).mono ?_
      rintro r w4 ⟨rfl, hb⟩
      have HB4 := Lib.hid (HB3.out.trans (hb.mono HB3.out.size))
      have HEa4 := Lib.hid (HEa3.out.kept (grown_below hb none) (by simp))
      have HEb4 := Lib.hid (HEb3.out.kept (grown_below hb none) (by simp))
      clear hb a0 a1 a2 a3 a4 a5 b0 b1 b2 b3 b4 b5
      obtain ⟨a0, a1, a2, a3, a4, a5⟩ := HEa4.out.c
      obtain ⟨b0, b1, b2, b3, b4, b5⟩ := HEb4.out.c
      go_wp2_with fail
      go_ret
      exact ⟨by rw [HR.out]; rfl, HB4.out⟩
    have HR : Hid (R = true) := Lib.hid (by rw [hE, show hdT _ _ = true from by simp [hdT, Ty.k, Ty.n, Ty.s, Ty.ls, Ty.tl, els, etl]]; show (true && sameTL l l') = true; rw [← hV1]; rfl)
    subst etl
    clear hS hS' hnl hnl' hnr hnr' hR hE hV1 els
    go_enter Tryz.func51, Tryz.ntmps51
    go_wp2_with fail
    clear hW2
    refine (HQl.out _ HB2.out).mono ?_
    rintro r w3 ⟨rfl, hb⟩
    have HB3 := Lib.hid (HB2.out.trans (hb.mono HB2.out.size))
    have HEa3 := Lib.hid (HEa.out.kept (grown_below hb none) (by simp))
    have HEb3 := Lib.hid (HEb.out.kept (grown_below hb none) (by simp))
    clear hb a0 a1 a2 a3 a4 a5 b0 b1 b2 b3 b4 b5
    obtain ⟨a0, a1, a2, a3, a4, a5⟩ := HEa3.out.c
    obtain ⟨b0, b1, b2, b3, b4, b5⟩ := HEb3.out.c
    go_wp2_with fail
    refine (HQr.out _ HB3.out).mono ?_
    rintro r w4 ⟨rfl, hb⟩
    have HB4 := Lib.hid (HB3.out.trans (hb.mono HB3.out.size))
    have HEa4 := Lib.hid (HEa3.out.kept (grown_below hb none) (by simp))
    have HEb4 := Lib.hid (HEb3.out.kept (grown_below hb none) (by simp))
    clear hb a0 a1 a2 a3 a4 a5 b0 b1 b2 b3 b4 b5
    obtain ⟨a0, a1, a2, a3, a4, a5⟩ := HEa4.out.c
    obtain ⟨b0, b1, b2, b3, b4, b5⟩ := HEb4.out.c
    go_wp2_with fail
    go_ret
    exact ⟨by rw [HR.out]; rfl, HB4.out⟩
end Go.Proofs.YtndgoefhhjcllaaGreatDoor
/- The program's Same and SameType. -/
namespace Go.Proofs.YtndgoefhhjcllaaGreatDoor
open Go.RowKit

set_option maxRecDepth 100000 in
set_option maxHeartbeats 1000000 in
theorem Same_any (a b : Ex) (v0 v1 v2 v3 v4 v5 v6 u0 u1 u2 u3 u4 u5 u6 : Value) (w : World) (h1 : RepE (fun _ => True) w a [v0, v1, v2, v3, v4, v5, v6]) (h2 : RepE (fun _ => True) w b [u0, u1, u2, u3, u4, u5, u6]) (hd : hE a ≤ 65536) :
    Calls Tryz.prog 23 #[.agg #[v0, v1, v2, v3, v4, v5, v6], .agg #[u0, u1, u2, u3, u4, u5, u6]] w fun r w' => r = .returned (.bool (sameE a b)) ∧ Below w.heap.size w w' := by
  have HT := Lib.hid (fun w' (hb : Below w.heap.size w w') => same_any a 65536 (by omega) (by omega) b _ _ w' (h1.keep (Same.of_below hb)) (h2.keep (Same.of_below hb)))
  obtain ⟨k1, n1, s1, t1, A1, p1, c1, B1, q1, d1, C1, r1, e1, hsh1⟩ := h1.shape
  simp only [List.cons.injEq, and_true] at hsh1
  obtain ⟨rfl, rfl, rfl, rfl, rfl, rfl, rfl⟩ := hsh1
  obtain ⟨k2, n2, s2, t2, A2, p2, c2, B2, q2, d2, C2, r2, e2, hsh2⟩ := h2.shape
  simp only [List.cons.injEq, and_true] at hsh2
  obtain ⟨rfl, rfl, rfl, rfl, rfl, rfl, rfl⟩ := hsh2
  obtain ⟨M, hM⟩ : ∃ M, M = sameE a b := ⟨_, rfl⟩
  rw [← hM] at HT
  rw [← hM]
  have HB0 : Hid (Below w.heap.size w ((w.alloc (.cells #[.int .i64 k1, .int .i64 n1, .string s1, .string t1, .slice A1 p1 c1, .slice B1 q1 d1, .slice C1 r1 e1] 27)).alloc (.cells #[.int .i64 k2, .int .i64 n2, .string s2, .string t2, .slice A2 p2 c2, .slice B2 q2 d2, .slice C2 r2 e2] 27))) := Lib.hid (((Below.refl _ _).alloc (Nat.le_refl _) _).alloc (by simp) _)
  clear hM h1 h2
  go_enter Tryz.func23, Tryz.ntmps23
  go_wp2_with fail
  refine (HT.out _ HB0.out).mono ?_
  rintro r w2 ⟨rfl, hb⟩
  have HB2 := Lib.hid (HB0.out.trans (hb.mono HB0.out.size))
  clear hb
  go_wp2_with fail
  go_ret
  exact ⟨rfl, HB2.out⟩
set_option maxRecDepth 100000 in
set_option maxHeartbeats 1000000 in
theorem SameType_any (a b : Ty) (v0 v1 v2 v3 v4 v5 u0 u1 u2 u3 u4 u5 : Value) (w : World) (h1 : RepT (fun _ => True) w a [v0, v1, v2, v3, v4, v5]) (h2 : RepT (fun _ => True) w b [u0, u1, u2, u3, u4, u5]) (hd : hT a ≤ 65536) :
    Calls Tryz.prog 25 #[.agg #[v0, v1, v2, v3, v4, v5], .agg #[u0, u1, u2, u3, u4, u5]] w fun r w' => r = .returned (.bool (sameT a b)) ∧ Below w.heap.size w w' := by
  have HT := Lib.hid (fun w' (hb : Below w.heap.size w w') => sameType_any a 65536 (by omega) (by omega) b _ _ w' (h1.keep (Same.of_below hb)) (h2.keep (Same.of_below hb)))
  obtain ⟨k1, n1, s1, A1, p1, c1, B1, q1, d1, tl1, hsh1⟩ := h1.shape
  simp only [List.cons.injEq, and_true] at hsh1
  obtain ⟨rfl, rfl, rfl, rfl, rfl, rfl⟩ := hsh1
  obtain ⟨k2, n2, s2, A2, p2, c2, B2, q2, d2, tl2, hsh2⟩ := h2.shape
  simp only [List.cons.injEq, and_true] at hsh2
  obtain ⟨rfl, rfl, rfl, rfl, rfl, rfl⟩ := hsh2
  obtain ⟨M, hM⟩ : ∃ M, M = sameT a b := ⟨_, rfl⟩
  rw [← hM] at HT
  rw [← hM]
  have HB0 : Hid (Below w.heap.size w ((w.alloc (.cells #[.int .i64 k1, .int .i64 n1, .string s1, .slice A1 p1 c1, .slice B1 q1 d1, .int .i64 tl1] 41)).alloc (.cells #[.int .i64 k2, .int .i64 n2, .string s2, .slice A2 p2 c2, .slice B2 q2 d2, .int .i64 tl2] 41))) := Lib.hid (((Below.refl _ _).alloc (Nat.le_refl _) _).alloc (by simp) _)
  clear hM h1 h2
  go_enter Tryz.func25, Tryz.ntmps25
  go_wp2_with fail
  refine (HT.out _ HB0.out).mono ?_
  rintro r w2 ⟨rfl, hb⟩
  have HB2 := Lib.hid (HB0.out.trans (hb.mono HB0.out.size))
  clear hb
  go_wp2_with fail
  go_ret
  exact ⟨rfl, HB2.out⟩
end Go.Proofs.YtndgoefhhjcllaaGreatDoor
