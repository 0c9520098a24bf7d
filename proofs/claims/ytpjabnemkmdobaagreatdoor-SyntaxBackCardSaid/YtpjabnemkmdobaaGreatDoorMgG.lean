/- Texts put together by program: Evn RLev RTxA RTxB RTxC EbA EbB EbC EbD EbE ParsL ParsM ParsZ KAt EbAG TpC OrF EbP EbH. -/
import Derived.Test.YtpjabnemkmdobaaGreatDoorMgF
import Derived.Test.YtpjabnemkmdobaaGreatDoorMgB
import Derived.Test.YtpjabnemkmdobaaGreatDoorMgC
import Derived.Test.YtpjabnemkmdobaaGreatDoorMgD
namespace Go.Proofs.YtpjabnemkmdobaaGreatDoor
open Go.RowKit
def evn (e:Ex):Prop:=∀ q∈nodesE 1 e,q.2.ops.length=q.2.bs.length
theorem evn.parts {k n:Int}{s t:Txt}{ns:List Txt}{l:List Ex}{ops:List (Txt × List Txt)}{bs:List Ex}(h:evn (.mk k n s t ns l ops bs)):ops.length=bs.length∧(∀ x∈l,evn x)∧∀ x∈bs,evn x:=by
 refine ⟨h (1,.mk k n s t ns l ops bs) (by simp [nodesE]),fun x hx=>nodesE_snd (fun e=>e.ops.length=e.bs.length) x (1+1) 1 fun q hq=>h q ?_,fun x hx=>nodesE_snd (fun e=>e.ops.length=e.bs.length) x (1+1) 1 fun q hq=>h q ?_⟩
 ·simp only [nodesE,List.mem_cons,List.mem_append]
  exact .inr (.inl (mem_nodesL hx hq))
 ·simp only [nodesE,List.mem_cons,List.mem_append]
  exact .inr (.inr (mem_nodesL hx hq))
theorem mem_of_nodesL {d:Int}{q:Int × Ex}:∀ {l:List Ex},q∈nodesL d l→∃ x∈l,q∈nodesE d x
 | [],h=>by simp [nodesL] at h
 | x :: r,h=>by
  simp only [nodesL,List.mem_append] at h
  rcases h with h | h
  ·exact ⟨x,by simp,h⟩
  ·obtain ⟨y,hy,hq⟩:=mem_of_nodesL h
   exact ⟨y,by simp [hy],hq⟩
theorem RepE.evn {P:Nat→Prop}{w:World}:∀ (e:Ex),(∃ cs,RepE P w e cs)→Proofs.YtpjabnemkmdobaaGreatDoor.evn e:=by
 refine Ex.ind fun e ih h=>?_
 cases e with
 | mk k n s t ns l ops bs =>
  obtain ⟨cs,An,cn,Al,cl,Aa,ca,_,_,_,hl,ha,ho⟩:=h
  intro q hq
  simp only [nodesE,List.mem_cons,List.mem_append] at hq
  have up:∀ x,Proofs.YtpjabnemkmdobaaGreatDoor.evn x→∀ q∈nodesE (1+1) x,q.2.ops.length=q.2.bs.length:=fun x hx=>nodesE_snd (fun e=>e.ops.length=e.bs.length) x 1 (1+1) hx
  rcases hq with rfl | hq | hq
  ·exact ho
  ·obtain ⟨x,hx,hq⟩:=mem_of_nodesL hq
   obtain ⟨b,off,_,_,_,hr⟩:=hl (List.ne_nil_of_mem hx)
   obtain ⟨j,hj,rfl⟩:=List.getElem_of_mem hx
   obtain ⟨cs',_,_,hre⟩:=RepL.at hr (List.getElem?_eq_getElem hj)
   exact up _ (ih _ (by simp [Ex.parts,Ex.l,Ex.bs,hx]) ⟨cs',hre⟩) q hq
  ·obtain ⟨x,hx,hq⟩:=mem_of_nodesL hq
   obtain ⟨b,off,_,_,_,hr⟩:=ha (List.ne_nil_of_mem hx)
   obtain ⟨j,hj,rfl⟩:=List.getElem_of_mem hx
   obtain ⟨o,_,_,_,cs',_,_,_,_,_,_,_,hre⟩:=RepA.at hr (List.getElem?_eq_getElem hj)
   exact up _ (ih _ (by simp [Ex.parts,Ex.l,Ex.bs,hx]) ⟨cs',hre⟩) q hq
mutual
theorem leftP_hE:∀ (e:Ex) (nodes d:Int),evn e→0≤leftP e nodes d→(hE e:Int)≤d∧0 < d∧e.l.length≤50∧e.bs.length≤50
 | .mk k n s t ns l ops bs,nodes,d,hv,h=>by
  obtain ⟨v1,v2,v3⟩:=hv.parts
  rw [leftP] at h
  split at h
  ·omega
  ·rename_i hc
   have c1:¬ d < 1:=fun h=>hc (.inl h)
   have c2:¬ 50 < l.length:=fun h=>hc (.inr (.inr (.inr (.inr (.inl h)))))
   have c3:¬ 50 < bs.length:=fun h=>hc (.inr (.inr (.inr (.inr (.inr h)))))
   have h1:0≤leftL l (nodes - 1) (d - 1):=by
    by_cases h0:leftL l (nodes - 1) (d - 1) < 0
    ·rw [leftA_neg _ _ _ _ h0] at h;omega
    ·omega
   have g1:=leftL_hE l (nodes - 1) (d - 1) v2 h1
   have g2:=leftA_hE ops bs (leftL l (nodes - 1) (d - 1)) (d - 1) v1 v3 h
   simp only [hE,Ex.l,Ex.bs]
   have e1:(hL l:Int)≤d - 1:=by
    rcases g1 with rfl | g1
    ·simp only [hL];omega
    ·exact g1
   have e2:(hL bs:Int)≤d - 1:=by
    rcases g2 with rfl | g2
    ·simp only [hL];omega
    ·exact g2
   omega
theorem leftL_hE:∀ (l:List Ex) (nodes d:Int),(∀ x∈l,evn x)→0≤leftL l nodes d→l=[]∨(hL l:Int)≤d
 | [],nodes,d,_,_=>.inl rfl
 | e :: r,nodes,d,hv,h=>by
  rw [leftL] at h
  split at h
  ·omega
  ·have h1:0≤leftP e nodes d:=by
    by_cases h0:leftP e nodes d < 0
    ·rw [leftL_neg _ _ _ h0] at h;omega
    ·omega
   have g1:=leftP_hE e nodes d (hv e (by simp)) h1
   have g2:=leftL_hE r _ d (fun x hx=>hv x (by simp [hx])) h
   right
   rw [hL]
   rcases g2 with rfl | g2
   ·simp only [hL];omega
   ·omega
theorem leftA_hE:∀ (ops:List (Txt × List Txt)) (l:List Ex) (nodes d:Int),ops.length=l.length→(∀ x∈l,evn x)→0≤leftA ops l nodes d→l=[]∨(hL l:Int)≤d
 | _,[],nodes,d,_,_,_=>.inl rfl
 | [],e :: r,nodes,d,hl,_,_=>by simp at hl
 | o :: q,e :: r,nodes,d,hl,hv,h=>by
  rw [leftA] at h
  split at h
  ·omega
  ·split at h
   ·omega
   ·have h1:0≤leftP e nodes d:=by
     by_cases h0:leftP e nodes d < 0
     ·rw [leftA_neg _ _ _ _ h0] at h;omega
     ·omega
    have g1:=leftP_hE e nodes d (hv e (by simp)) h1
    have g2:=leftA_hE q r _ d (by simpa using hl) (fun x hx=>hv x (by simp [hx])) h
    right
    rw [hL]
    rcases g2 with rfl | g2
    ·simp only [hL];omega
    ·omega
end
theorem great_hE {e:Ex}(hv:evn e)(h:great e=false):hE e≤250∧e.l.length≤50∧e.bs.length≤50:=by
 unfold great at h
 have:=leftP_hE e 4000 250 hv (by simpa using h)
 omega
def PtS (w0 w:World):Prop:=Below w0.heap.size w0 w
theorem PtS.drew {w0 w:World}(h:PtS w0 w):PtS w0 w.drew:=Below.drew h
theorem PtS.below {w0 w w':World}(hb:Below w.heap.size w w')(h:PtS w0 w):PtS w0 w':=Below.trans h (hb.mono (Below.size h))
theorem PtS.all {w0 w:World}{b o:Nat}{u0 u1 u2 u3 u4 u5 u6:Value}(hlt:b < w0.heap.size)(d0:w0.cell? ⟨b,o,none⟩=some u0)(d1:w0.cell? ⟨b,o+1,none⟩=some u1)(d2:w0.cell? ⟨b,o+2,none⟩=some u2)(d3:w0.cell? ⟨b,o+3,none⟩=some u3)(d4:w0.cell? ⟨b,o+4,none⟩=some u4)(d5:w0.cell? ⟨b,o+5,none⟩=some u5)(d6:w0.cell? ⟨b,o+6,none⟩=some u6)(h:PtS w0 w) :
  w.cell? ⟨b,o,none⟩=some u0∧w.cell? ⟨b,o+1,none⟩=some u1∧w.cell? ⟨b,o+2,none⟩=some u2∧w.cell? ⟨b,o+3,none⟩=some u3∧w.cell? ⟨b,o+4,none⟩=some u4∧w.cell? ⟨b,o+5,none⟩=some u5∧w.cell? ⟨b,o+6,none⟩=some u6∧PtS w0 w:=by
 have k:∀ o,w.cell? ⟨b,o,none⟩=w0.cell? ⟨b,o,none⟩:=fun o=>Below.cell (p:=⟨b,o,none⟩) h hlt
 exact ⟨(k _).trans d0,(k _).trans d1,(k _).trans d2,(k _).trans d3,(k _).trans d4,(k _).trans d5,(k _).trans d6,h⟩
def szL (l:List Ex):Nat:=(l.map fun x=>(nodesE 1 x).length).sum
def atT (a:Int)(e:Ex):Txt:=(atP a e.lp).flatten
theorem atT_eq (a:Int)(e:Ex):atT a e=if a≤e.lv then textE e else [40]++(textE e++[41]):=by
 unfold atT atP textE
 show (if a≤e.lv then pcs e else _).flatten=_
 by_cases h:a≤e.lv
 ·rw [if_pos h,if_pos h]
 ·rw [if_neg h,if_neg h]
  show ([40] :: (pcs e++[[41]])).flatten=_
  simp
def lsT (l:List Ex):Txt:=[91]++Lib.join (l.map (atT 0)) [44,32]++[93]
def arT (o:Txt × List Txt)(e:Ex):Txt:=Lib.join (o.1 :: o.2) [32]++[32,45,62,32]++atT 0 e
def clT (ops:List (Txt × List Txt))(bs:List Ex):Txt:=if bs.length=0 then [123,32,125] else [123,32]++Lib.join (List.zipWith arT ops bs) [59,32]++[32,125]
theorem PartsAt.below {B:Nat}{w w':World}{A:Option Addr}{l:List Ex}(h:PartsAt B w A l)(hb:Below w.heap.size w w'):PartsAt B w' A l:=fun h0=>by
 obtain ⟨b,off,e,h1,h2,hc⟩:=h h0
 have k:∀ o,w'.cell? ⟨b,o,none⟩=w.cell? ⟨b,o,none⟩:=fun o=>Below.cell (p:=⟨b,o,none⟩) hb h2
 refine ⟨b,off,e,h1,Nat.lt_of_lt_of_le h2 hb.size,fun j e hj=>?_⟩
 obtain ⟨k0,n,s,t,A0,n0,c0,A1,n1,c1,A2,n2,c2,hr,d0,d1,d2,d3,d4,d5,d6⟩:=hc j e hj
 exact ⟨k0,n,s,t,A0,n0,c0,A1,n1,c1,A2,n2,c2,hr.keep (Same.of_below hb),(k _).trans d0,(k _).trans d1,(k _).trans d2,(k _).trans d3,(k _).trans d4,(k _).trans d5,(k _).trans d6⟩
theorem ArmsAt.below {B:Nat}{w w':World}{A:Option Addr}{hs:List (Txt × List Txt)}{bs:List Ex}(h:ArmsAt B w A hs bs)(hb:Below w.heap.size w w'):ArmsAt B w' A hs bs:=fun h0=>by
 obtain ⟨b,off,e,h1,h2,hc⟩:=h h0
 have kk:∀ o,w'.cell? ⟨b,o,none⟩=w.cell? ⟨b,o,none⟩:=fun o=>Below.cell (p:=⟨b,o,none⟩) hb h2
 refine ⟨b,off,e,h1,Nat.lt_of_lt_of_le h2 hb.size,fun j hd e g1 g2=>?_⟩
 obtain ⟨An,cn,k,n,s,t,A0,n0,c0,A1,n1,c1,A2,n2,c2,H⟩:=hc j hd e g1 g2
 exact ⟨An,cn,k,n,s,t,A0,n0,c0,A1,n1,c1,A2,n2,c2,H.names.keep (Same.of_below hb),H.len,H.rep.keep (Same.of_below hb),(kk _).trans H.d0,(kk _).trans H.d1,(kk _).trans H.d2,(kk _).trans H.d3,(kk _).trans H.d4,(kk _).trans H.d5,(kk _).trans H.d6,(kk _).trans H.d7,(kk _).trans H.d8⟩
theorem PtS.keep {w0 w:World}{b o:Nat}{v:Value}(h:PtS w0 w)(hlt:b < w0.heap.size)(hc:w0.cell? ⟨b,o,none⟩=some v):w.cell? ⟨b,o,none⟩=some v:=(Below.cell (p:=⟨b,o,none⟩) (show Below w0.heap.size w0 w from h) hlt).trans hc
theorem PartCells.up {B b o:Nat}{w W1:World}{e:Ex}{k n:Int}{s t:ByteArray}{A0:Option Addr}{n0 c0:Nat}{A1:Option Addr}{n1 c1:Nat}{A2:Option Addr}{n2 c2:Nat}(h:PartCells B w b o e k n s t A0 n0 c0 A1 n1 c1 A2 n2 c2)(hb:b < w.heap.size)(hB:Below w.heap.size w W1) :
  W1.cell? ⟨b,o,none⟩=some (.int .i64 k)∧W1.cell? ⟨b,o+1,none⟩=some (.int .i64 n)∧W1.cell? ⟨b,o+2,none⟩=some (.string s)∧W1.cell? ⟨b,o+3,none⟩=some (.string t)∧W1.cell? ⟨b,o+4,none⟩=some (.slice A0 n0 c0)∧W1.cell? ⟨b,o+5,none⟩=some (.slice A1 n1 c1)∧W1.cell? ⟨b,o+6,none⟩=some (.slice A2 n2 c2):=by
 have k:∀ o,W1.cell? ⟨b,o,none⟩=w.cell? ⟨b,o,none⟩:=fun o=>Below.cell (p:=⟨b,o,none⟩) hB hb
 exact ⟨(k _).trans h.d0,(k _).trans h.d1,(k _).trans h.d2,(k _).trans h.d3,(k _).trans h.d4,(k _).trans h.d5,(k _).trans h.d6⟩
theorem jn_cons (a b:Txt)(r:List Txt)(sep:Txt):Lib.join (a :: b :: r) sep=a++(sep++Lib.join (b :: r) sep):=by
 unfold Lib.join List.intercalate
 rw [List.intersperse_cons_cons,List.flatten_cons,List.flatten_cons]
theorem flat_listP (sep:Txt):∀ (xs:List (List Txt)),(listP sep xs).flatten=Lib.join (xs.map List.flatten) sep
 | []=>rfl
 | [x]=>by simp [listP,Lib.join,List.intercalate]
 | x :: y :: r=>by
  have ih:=flat_listP sep (y :: r)
  rw [List.map_cons,List.map_cons,jn_cons,← List.map_cons,← ih]
  simp [listP]
theorem flat_spaced (ns:List Txt)(a:Txt):a++(spacedP ns).flatten=Lib.join (a :: ns) [32]:=by
 induction ns generalizing a with
 | nil=>simp [spacedP,Lib.join,List.intercalate]
 | cons x r ih =>
  rw [jn_cons,← ih x]
  simp [spacedP]
theorem flat_arm (o:Txt × List Txt)(e:Ex):(armP o e.lp).flatten=arT o e:=by
 unfold armP arT atT
 rw [← flat_spaced]
 simp
theorem flat_braces (ops:List (Txt × List Txt))(bs:List Ex):(bracesP ops (bs.map Ex.lp)).flatten=clT ops bs:=by
 have hz:∀ (ops:List (Txt × List Txt)) (bs:List Ex),(List.zipWith armP ops (bs.map Ex.lp)).map List.flatten=List.zipWith arT ops bs:=by
  intro ops
  induction ops with
  | nil=>intro bs;simp
  | cons o q ih =>
   intro bs
   cases bs with
   | nil=>simp
   | cons e r=>simp [ih r,flat_arm]
 unfold bracesP clT
 have h1:=flat_listP [59,32] (List.zipWith armP ops (bs.map Ex.lp))
 rw [hz] at h1
 rw [List.flatten_append,List.flatten_append,List.flatten_append,h1,List.length_map]
 by_cases h:bs.length=0
 ·rw [if_pos h,if_pos h]
  have hb:bs=[]:=List.length_eq_zero_iff.1 h
  subst hb
  simp [Lib.join,List.intercalate]
 ·rw [if_neg h,if_neg h]
  simp
theorem txeq_con (n:Int)(s t:Txt)(ns:List Txt)(l:List Ex)(ops:List (Txt × List Txt))(bs:List Ex)(h:0 < l.length):textE (.mk 10 n s t ns l ops bs)=s++lsT l:=by
 unfold textE lsT
 rw [pcs_mk]
 have h1:=flat_listP [44,32] ((l.map Ex.lp).map (atP 0))
 have h2:((l.map Ex.lp).map (atP 0)).map List.flatten=l.map (atT 0):=by rw [List.map_map,List.map_map];rfl
 rw [h2] at h1
 show ([s]++(if (l.map Ex.lp).length=0 then [] else [[91]]++(listP [44,32] ((l.map Ex.lp).map (atP 0))++[[93]]))).flatten=_
 rw [if_neg (by rw [List.length_map];omega),List.flatten_append,List.flatten_append,List.flatten_append,h1]
 simp
theorem txeq_fun (n:Int)(s t:Txt)(a0:Txt)(e0:Ex)(rl:List Ex)(ops:List (Txt × List Txt))(bs:List Ex):textE (.mk 4 n s t [a0] (e0 :: rl) ops bs)=[102,117,110,32]++a0++[32,45,62,32]++atT 0 e0:=by
 unfold textE atT
 rw [pcs_mk]
 simp [nodeP,openP,spacedP,behindP]
theorem txeq_app (n:Int)(s t:Txt)(ns:List Txt)(e0 e1:Ex)(rl:List Ex)(ops:List (Txt × List Txt))(bs:List Ex):textE (.mk 5 n s t ns (e0 :: e1 :: rl) ops bs)=atT 4 e0++[32]++atT 5 e1:=by
 unfold textE atT
 rw [pcs_mk]
 simp [nodeP,nth]
theorem txeq_let (n:Int)(s t:Txt)(a0:Txt)(e0 e1:Ex)(rl:List Ex)(ops:List (Txt × List Txt))(bs:List Ex):textE (.mk 6 n s t [a0] (e0 :: e1 :: rl) ops bs)=[108,101,116,32]++a0++[32,61,32]++atT 0 e0++[32,105,110,32]++atT 0 e1:=by
 unfold textE atT
 rw [pcs_mk]
 simp [nodeP,openP,spacedP,behindP]
theorem txeq_rec (n:Int)(s t:Txt)(a0 a1:Txt)(e0 e1:Ex)(rl:List Ex)(ops:List (Txt × List Txt))(bs:List Ex):textE (.mk 7 n s t [a0,a1] (e0 :: e1 :: rl) ops bs)=[114,101,99,32]++a0++[32]++a1++[32,61,32]++atT 0 e0++[32,105,110,32]++atT 0 e1:=by
 unfold textE atT
 rw [pcs_mk]
 simp [nodeP,openP,spacedP,behindP]
theorem txeq_if (n:Int)(s t:Txt)(ns:List Txt)(e0 e1 e2:Ex)(rl:List Ex)(ops:List (Txt × List Txt))(bs:List Ex):textE (.mk 8 n s t ns (e0 :: e1 :: e2 :: rl) ops bs)=[105,102,32]++atT 0 e0++[32,116,104,101,110,32]++atT 0 e1++[32,101,108,115,101,32]++atT 0 e2:=by
 unfold textE atT
 rw [pcs_mk]
 simp [nodeP,behindP]
theorem txeq_match (n:Int)(s t:Txt)(ns:List Txt)(e0:Ex)(rl:List Ex)(ops:List (Txt × List Txt))(bs:List Ex):textE (.mk 11 n s t ns (e0 :: rl) ops bs)=[109,97,116,99,104,32]++atT 0 e0++[32]++clT ops bs:=by
 unfold textE atT
 rw [pcs_mk]
 simp [nodeP,bracedP,nth,flat_braces]
theorem txeq_do (n:Int)(s t:Txt)(ns:List Txt)(e0:Ex)(rl:List Ex)(ops:List (Txt × List Txt))(bs:List Ex):textE (.mk 12 n s t ns (e0 :: rl) ops bs)=[100,111,32]++s++[32]++atT 5 e0:=by
 unfold textE atT
 rw [pcs_mk]
 simp [nodeP,callP,nth]
theorem txeq_atk (n:Int)(s t:Txt)(ns:List Txt)(e0:Ex)(rl:List Ex)(ops:List (Txt × List Txt))(bs:List Ex):textE (.mk 13 n s t ns (e0 :: rl) ops bs)=s++[46]++t++[32]++atT 5 e0:=by
 unfold textE atT
 rw [pcs_mk]
 simp [nodeP,callP,nth]
theorem txeq_handle0 (s t:Txt)(ns:List Txt)(e0:Ex)(rl:List Ex)(ops:List (Txt × List Txt))(bs:List Ex):textE (.mk 14 0 s t ns (e0 :: rl) ops bs)=[104,97,110,100,108,101,32]++s++[32]++atT 0 e0++[32]++clT ops bs:=by
 unfold textE atT
 rw [pcs_mk]
 simp [nodeP,bracedP,nth,flat_braces]
theorem txeq_handle1 (s t:Txt)(ns:List Txt)(e0:Ex)(rl:List Ex)(ops:List (Txt × List Txt))(bs:List Ex):textE (.mk 14 1 s t ns (e0 :: rl) ops bs)=[115,104,97,108,108,111,119,32]++s++[32]++atT 0 e0++[32]++clT ops bs:=by
 unfold textE atT
 rw [pcs_mk]
 simp [nodeP,bracedP,nth,flat_braces]
theorem txeq_named (n:Int)(s t:Txt)(a0:Txt)(e0:Ex)(rl:List Ex)(ops:List (Txt × List Txt))(bs:List Ex):textE (.mk 15 n s t [a0] (e0 :: rl) ops bs)=[110,97,109,101,100,32]++a0++[32]++s++[32]++atT 0 e0++[32]++clT ops bs:=by
 unfold textE atT
 rw [pcs_mk]
 simp [nodeP,bracedP,nth,flat_braces]
theorem txeq_mask (n:Int)(s t:Txt)(ns:List Txt)(e0:Ex)(rl:List Ex)(ops:List (Txt × List Txt))(bs:List Ex):textE (.mk 16 n s t ns (e0 :: rl) ops bs)=[109,97,115,107,32]++s++[32]++atT 5 e0:=by
 unfold textE atT
 rw [pcs_mk]
 simp [nodeP,callP,nth]
theorem txeq_using (n:Int)(s t:Txt)(a0:Txt)(rn:List Txt)(e0 e1 e2:Ex)(rl:List Ex)(ops:List (Txt × List Txt))(bs:List Ex):textE (.mk 17 n s t (a0 :: rn) (e0 :: e1 :: e2 :: rl) ops bs)=[117,115,105,110,103,32]++a0++[32,91]++Lib.join rn [44,32]++[93,32,61,32]++atT 0 e0++[32,99,108,111,115,101,32]++atT 0 e1++[32,105,110,32]++atT 0 e2:=by
 unfold textE atT
 rw [pcs_mk]
 simp [nodeP,behindP]
theorem txeq_resume (n:Int)(s t:Txt)(ns:List Txt)(e0:Ex)(rl:List Ex)(ops:List (Txt × List Txt))(bs:List Ex):textE (.mk 18 n s t ns (e0 :: rl) ops bs)=[114,101,115,117,109,101,32]++s++[32]++atT 5 e0:=by
 unfold textE atT
 rw [pcs_mk]
 simp [nodeP,callP,nth]
def wk (x:Txt):Ky:=(tokS x).getD (0,[],0)
def WOk (x:Txt):Prop:=x≠[]∧(∀ c∈x,kb c≠0)∧(tokS x).isSome=true
theorem LK.wd {x r:Txt}{ks:List Ky}(hx:WOk x)(hr:NW r)(h:LK r ks):LK (x++r) (wk x :: ks):=by
 obtain ⟨k,hk⟩:=Option.isSome_iff_exists.1 hx.2.2
 have:wk x=k:=by unfold wk;rw [hk];rfl
 rw [this]
 exact LK.word hx.1 hx.2.1 hr hk h
theorem wok_low {x:Txt}(h:isNm 1 x=true):WOk x:=by
 obtain ⟨h1,h2,_⟩:=isNm_all h
 refine ⟨h1,h2,?_⟩
 cases hk:isKw x with
 | true=>rw [tok_kw hk];rfl
 | false=>rw [tok_var h hk];rfl
theorem wok_up {x:Txt}(h:isNm 2 x=true):WOk x:=by
 obtain ⟨h1,h2,_⟩:=isNm_all h
 exact ⟨h1,h2,by rw [tok_upper h];rfl⟩
theorem wok_v {x:Txt}(h:isV x=true):WOk x:=wok_low (by
 unfold isV at h
 rw [Bool.and_eq_true] at h
 exact h.1)
theorem wok_int {n:Int}(h:0≤n∧n≤999999999):WOk (Lib.itoa n):=⟨(itoa_word h).1,(itoa_word h).2,by rw [tok_int h];rfl⟩
theorem wk_int {n:Int}(h:0≤n∧n≤999999999):wk (Lib.itoa n)=(3,[],n):=by unfold wk;rw [tok_int h];rfl
theorem LK.sy {x:Txt}{ks:List Ky}(r:Txt)(h:LK r ks)(hx:x=[40]∨x=[41]∨x=[123]∨x=[125]∨x=[91]∨x=[93]∨x=[44]∨x=[59]∨x=[46]∨x=[45,62]∨x=[61,61]∨x=[42]∨x=[43]∨x=[60]):LK (x++r) ((4,x,0) :: ks):=by
 rcases hx with rfl | rfl | rfl | rfl | rfl | rfl | rfl | rfl | rfl | rfl | rfl | rfl | rfl | rfl
 all_goals exact LK.tok (by simp) rfl rfl (by decide) h
theorem LK.sy2 {x:Txt}{ks:List Ky}(r:Txt)(h:LK r ks)(hx:x=[61]∨x=[45]):LK (x++(32 :: r)) ((4,x,0) :: ks):=by
 rcases hx with rfl | rfl
 all_goals exact LK.tok (by simp) rfl rfl (by decide) (LK.sp h)
theorem LK.minus {r:Txt}{ks:List Ky}{d:UInt8}{q:Txt}(hr:r=d :: q)(hd:kb d=3)(h:LK r ks):LK ([45]++r) ((4,[45],0) :: ks):=by
 subst hr
 refine LK.tok (by simp) rfl ?_ (by decide) h
 have hne:d≠62:=by rintro rfl;exact absurd hd (by decide)
 have hw:wordLen ([45]++d :: q)=0:=by
  unfold wordLen
  show (List.takeWhile _ (45 :: d :: q)).length=0
  rw [List.takeWhile_cons,if_neg (by decide)];rfl
 unfold partOf
 rw [hw,if_pos rfl]
 have e1:((62:UInt8) == d)=false:=by simpa using hne.symm
 show symAt (45 :: d :: q)=[45]
 unfold symAt symList
 simp [List.find?,List.isPrefixOf,e1]
def LTx (x:Txt)(ks:List Ky):Prop:=∀ (r:Txt) (ks':List Ky),NW r→LK r ks'→LK (x++r) (ks++ks')
def spacedK (ns:List Txt):List Ky:=ns.map wk
def behindK:List LvK→List (List Ky)→List Ky
 | q :: r,t :: ts=>t++(atK' 0 q++behindK r ts)
 | _,_=>[]
def listKy (sep:Ky):List (List Ky)→List Ky
 | []=>[]
 | x :: r=>x++r.flatMap fun y=>sep :: y
def armK (o:Txt × List Txt)(q:LvK):List Ky:=wk o.1 :: (spacedK o.2++((4,[45,62],0) :: atK' 0 q))
def bracedK (q:LvK)(ops:List (Txt × List Txt))(bs:List LvK):List Ky:=atK' 0 q++((4,[123],0) :: (listKy (4,[59],0) (List.zipWith armK ops bs)++[(4,[125],0)]))
def nodeKE (k n:Int)(s t:Txt)(ns:List Txt)(l:List LvK)(ops:List (Txt × List Txt))(bs:List LvK):List Ky :=
 match k.toNat with
 | 0=>[wk s]
 | 1=>if n < 0 then [(4,[40],0),(4,[45],0),(3,[],-n),(4,[41],0)] else [(3,[],n)]
 | 2=>if n=0 then [wk [102,97,108,115,101]] else [wk [116,114,117,101]]
 | 3=>[(4,[40],0),(4,[41],0)]
 | 4=>wk [102,117,110] :: (spacedK ns++behindK l [[(4,[45,62],0)]])
 | 5=>atK' 4 (nthK l 0)++atK' 5 (nthK l 1)
 | 6=>wk [108,101,116] :: (spacedK ns++behindK l [[(4,[61],0)],[wk [105,110]]])
 | 7=>wk [114,101,99] :: (spacedK ns++behindK l [[(4,[61],0)],[wk [105,110]]])
 | 8=>behindK l [[wk [105,102]],[wk [116,104,101,110]],[wk [101,108,115,101]]]
 | 9=>atK' (operandLv ((opLv s).getD 0)) (nthK l 0)++((4,s,0) :: atK' ((opLv s).getD 0+1) (nthK l 1))
 | 10=>wk s :: (if l.length=0 then [] else (4,[91],0) :: (listKy (4,[44],0) (l.map (atK' 0))++[(4,[93],0)]))
 | 11=>wk [109,97,116,99,104] :: bracedK (nthK l 0) ops bs
 | 12=>wk [100,111] :: wk s :: atK' 5 (nthK l 0)
 | 13=>wk s :: (4,[46],0) :: wk t :: atK' 5 (nthK l 0)
 | 14=>wk (if n=1 then [115,104,97,108,108,111,119] else [104,97,110,100,108,101]) :: wk s :: bracedK (nthK l 0) ops bs
 | 15=>wk [110,97,109,101,100] :: wk (ns.getD 0 []) :: wk s :: bracedK (nthK l 0) ops bs
 | 16=>wk [109,97,115,107] :: wk s :: atK' 5 (nthK l 0)
 | 17=>wk [117,115,105,110,103] :: wk (ns.getD 0 []) :: (4,[91],0) :: (listKy (4,[44],0) ((ns.drop 1).map fun x=>[wk x])++((4,[93],0) :: behindK l [[(4,[61],0)],[wk [99,108,111,115,101]],[wk [105,110]]]))
 | 18=>wk [114,101,115,117,109,101] :: wk s :: atK' 5 (nthK l 0)
 | _=>[wk [100,114,111,112],wk s]
mutual
def exK:Ex→List Ky
 | .mk k n s t ns l ops bs=>nodeKE k n s t ns (exKL l) ops (exKL bs)
def exKL:List Ex→List LvK
 | []=>[]
 | e :: r=>(e.lv,exK e) :: exKL r
end
def Ex.kp (e:Ex):LvK:=(e.lv,exK e)
theorem exKL_map:∀ l:List Ex,exKL l=l.map Ex.kp
 | []=>by simp [exKL]
 | e :: r=>by rw [exKL,exKL_map r];rfl
theorem exK_mk (k n:Int)(s t:Txt)(ns:List Txt)(l:List Ex)(ops:List (Txt × List Txt))(bs:List Ex):exK (.mk k n s t ns l ops bs)=nodeKE k n s t ns (l.map Ex.kp) ops (bs.map Ex.kp):=by
 rw [exK,exKL_map,exKL_map]
def atKE (a:Int)(e:Ex):List Ky:=atK' a e.kp
def LkEx (e:Ex):Prop:=LTx (textE e) (exK e)
theorem lk_atE {e:Ex}(h:LkEx e)(a:Int):LTx (atT a e) (atKE a e):=fun r ks hr hk=>by
 rw [atT_eq]
 unfold atKE atK'
 show LK _ ((if a≤e.lv then exK e else _)++ks)
 by_cases hc:a≤e.lv
 ·rw [if_pos hc,if_pos hc];exact h r ks hr hk
 ·rw [if_neg hc,if_neg hc]
  have e1:[40]++(textE e++[41])++r=[40]++(textE e++([41]++r)):=by simp
  have e2:(((4,[40],0):Ky) :: (exK e++[(4,[41],0)]))++ks=(4,[40],0) :: (exK e++((4,[41],0) :: ks)):=by simp
  show LK _ ((((4,[40],0):Ky) :: (exK e++[(4,[41],0)]))++ks)
  rw [e1,e2]
  exact LK.sy (x:=[40]) _ (h _ _ (NW.cons (by decide)) (LK.sy (x:=[41]) _ hk (by simp))) (by simp)
theorem listKy_cons (sep:Ky)(x y:List Ky)(r:List (List Ky)):listKy sep (x :: y :: r)=x++(sep :: listKy sep (y :: r)):=by simp [listKy]
theorem lk_join (c:UInt8)(hc:c=44∨c=59):∀ (ps:List (Txt × List Ky)),(∀ p∈ps,LTx p.1 p.2)→LTx (Lib.join (ps.map (·.1)) [c,32]) (listKy (4,[c],0) (ps.map (·.2)))
 | [],_,r,ks,hr,hk=>hk
 | [p],h,r,ks,hr,hk=>by
  have:=h p (by simp) r ks hr hk
  simpa [Lib.join,List.intercalate,listKy] using this
 | p :: q :: s,h,r,ks,hr,hk=>by
  have ih:=lk_join c hc (q :: s) (fun x hx=>h x (by simp [hx])) r ks hr hk
  rw [List.map_cons,List.map_cons,jn_cons,List.map_cons,List.map_cons,listKy_cons]
  rw [← List.map_cons,← List.map_cons] at *
  have e1:p.1++([c,32]++Lib.join ((q :: s).map (·.1)) [c,32])++r=p.1++([c]++(32 :: (Lib.join ((q :: s).map (·.1)) [c,32]++r))):=by simp
  have e2:p.2++(((4,[c],0):Ky) :: listKy (4,[c],0) ((q :: s).map (·.2)))++ks=p.2++(((4,[c],0):Ky) :: (listKy (4,[c],0) ((q :: s).map (·.2))++ks)):=by simp
  rw [e1,e2]
  have hsy:LK ([c]++(32 :: (Lib.join ((q :: s).map (·.1)) [c,32]++r))) (((4,[c],0):Ky) :: (listKy (4,[c],0) ((q :: s).map (·.2))++ks)):=LK.sy (x:=[c]) _ (LK.sp ih) (by rcases hc with rfl | rfl <;> simp)
  exact h p (by simp) _ _ (by rcases hc with rfl | rfl <;> exact NW.cons (by decide)) hsy
theorem lk_names:∀ (ns:List Txt),(∀ x∈ns,WOk x)→∀ (r:Txt) (ks:List Ky),NW r→LK r ks→NW ((spacedP ns).flatten++r)∧LK ((spacedP ns).flatten++r) (spacedK ns++ks)
 | [],_,r,ks,hr,hk=>⟨hr,hk⟩
 | x :: q,h,r,ks,hr,hk=>by
  obtain ⟨i1,i2⟩:=lk_names q (fun y hy=>h y (by simp [hy])) r ks hr hk
  have e1:(spacedP (x :: q)).flatten++r=32 :: (x++((spacedP q).flatten++r)):=by simp [spacedP]
  rw [e1]
  exact ⟨NW.cons (by decide),LK.sp (LK.wd (h x (by simp)) i1 i2)⟩
theorem lk_arm {o:Txt × List Txt}{e:Ex}(ho:WOk o.1)(hn:∀ x∈o.2,WOk x)(he:LkEx e):LTx (arT o e) (armK o e.kp):=fun r ks hr hk=>by
 have h1:=lk_atE he 0 r ks hr hk
 have h2:LK ([45,62]++(32 :: (atT 0 e++r))) (((4,[45,62],0):Ky) :: (atKE 0 e++ks)):=LK.sy (x:=[45,62]) _ (LK.sp h1) (by simp)
 obtain ⟨h3,h4⟩:=lk_names o.2 hn (32 :: ([45,62]++(32 :: (atT 0 e++r)))) _ (NW.cons (by decide)) (LK.sp h2)
 have e1:arT o e++r=o.1++((spacedP o.2).flatten++(32 :: ([45,62]++(32 :: (atT 0 e++r))))):=by
  unfold arT
  rw [← flat_spaced]
  simp
 have e2:armK o e.kp++ks=wk o.1 :: (spacedK o.2++(((4,[45,62],0):Ky) :: (atKE 0 e++ks))):=by simp [armK,atKE]
 rw [e1,e2]
 exact LK.wd ho h3 h4
theorem lk_arms {ops:List (Txt × List Txt)}{bs:List Ex}(ho:∀ o∈ops,WOk o.1∧∀ x∈o.2,WOk x)(hb:∀ e∈bs,LkEx e)(hl:bs.length≤ops.length){r:Txt}{ks:List Ky}(hk:LK r ks) :
  LK (clT ops bs++r) (((4,[123],0):Ky) :: (listKy (4,[59],0) (List.zipWith armK ops (bs.map Ex.kp))++((4,[125],0) :: ks))):=by
 have hend:LK ([125]++r) (((4,[125],0):Ky) :: ks):=LK.sy (x:=[125]) _ hk (by simp)
 unfold clT
 by_cases h0:bs.length=0
 ·have:bs=[]:=List.length_eq_zero_iff.1 h0
  subst this
  rw [if_pos (by simp)]
  have e1:List.zipWith armK ops (([]:List Ex).map Ex.kp)=[]:=by simp
  rw [e1]
  exact LK.sy (x:=[123]) _ (LK.sp hend) (by simp)
 ·rw [if_neg h0]
  obtain ⟨ps,p1,p2,p3⟩:∃ ps:List (Txt × List Ky),ps.map (·.1)=List.zipWith arT ops bs∧ps.map (·.2)=List.zipWith armK ops (bs.map Ex.kp)∧∀ p∈ps,LTx p.1 p.2:=by
   refine ⟨List.zipWith (fun o e=>(arT o e,armK o e.kp)) ops bs,?_,?_,?_⟩
   ·rw [List.map_zipWith]
   ·rw [List.map_zipWith,List.zipWith_map_right]
   ·intro p hp
    obtain ⟨i,hi,rfl⟩:=List.getElem_of_mem hp
    rw [List.getElem_zipWith]
    rw [List.length_zipWith] at hi
    have h1:=ho _ (List.getElem_mem (show i < ops.length by omega))
    exact lk_arm h1.1 h1.2 (hb _ (List.getElem_mem (show i < bs.length by omega)))
  have hj:=lk_join 59 (.inr rfl) ps p3 (32 :: ([125]++r)) (((4,[125],0):Ky) :: ks) (NW.cons (by decide)) (LK.sp hend)
  rw [p1,p2] at hj
  have e1:[123,32]++Lib.join (List.zipWith arT ops bs) [59,32]++[32,125]++r=[123]++(32 :: (Lib.join (List.zipWith arT ops bs) [59,32]++(32 :: ([125]++r)))):=by simp
  rw [e1]
  exact LK.sy (x:=[123]) _ (LK.sp hj) (by simp)
theorem lk_word {x:Txt}(hx:WOk x):LTx x [wk x]:=fun _ _ hr hk=>LK.wd hx hr hk
theorem lk_intE {n:Int}(hn:-999999999≤n∧n≤999999999)(s t:Txt)(ns:List Txt)(l:List Ex)(ops:List (Txt × List Txt))(bs:List Ex):LkEx (.mk 1 n s t ns l ops bs):=fun r ks hr hk=>by
 unfold textE
 rw [pcs_mk,exK_mk]
 show LK ((if n < 0 then [[40],Lib.itoa n,[41]] else [Lib.itoa n]).flatten++r) ((if n < 0 then [(4,[40],0),(4,[45],0),(3,[],-n),(4,[41],0)] else [(3,[],n)])++ks)
 by_cases h0:n < 0
 ·rw [if_pos h0,if_pos h0]
  have hi:0≤-n∧-n≤999999999:=by omega
  have e0:Lib.itoa n=45 :: Lib.itoa (-n):=by
   unfold Lib.itoa
   rw [if_pos h0,if_neg (by omega)]
   congr 2
   omega
  have hw:=wok_int hi
  obtain ⟨d,q,hdq⟩:∃ d q,Lib.itoa (-n)=d :: q:=by
   cases hq:Lib.itoa (-n) with
   | nil=>exact absurd hq hw.1
   | cons d q=>exact ⟨d,q,rfl⟩
  have hd:kb d=3:=itoa_dig hi d (by rw [hdq];simp)
  have e1:([[40],Lib.itoa n,[41]]:List Txt).flatten++r=[40]++([45]++(Lib.itoa (-n)++([41]++r))):=by rw [e0];simp
  rw [e1]
  have h3:LK (Lib.itoa (-n)++([41]++r)) (((3,[],-n):Ky) :: (4,[41],0) :: ks):=by
   have:=LK.wd hw (NW.cons (by decide)) (LK.sy (x:=[41]) _ hk (by simp))
   rwa [wk_int hi] at this
  exact LK.sy (x:=[40]) _ (LK.minus (d:=d) (q:=q++([41]++r)) (by rw [hdq];rfl) hd h3) (by simp)
 ·rw [if_neg h0,if_neg h0]
  have hi:0≤n∧n≤999999999:=by omega
  have:=LK.wd (wok_int hi) hr hk
  rw [wk_int hi] at this
  simpa using this
theorem lk_fun (n:Int)(s t:Txt)(e0:Ex)(a0:Txt)(ops:List (Txt × List Txt))(bs:List Ex)(ha0:WOk a0)(he0:LkEx e0):LkEx (.mk 4 n s t [a0] [e0] ops bs):=fun r ks hr hk=>by
 have h:LK ([102,117,110]++(32 :: (a0++(32 :: ([45,62]++(32 :: (atT 0 e0++r))))))) (wk [102,117,110] :: (wk a0 :: (((4,[45,62],0):Ky) :: (atKE 0 e0++ks)))):=(LK.wd ⟨by simp,by decide,by decide⟩ (NW.cons (by decide)) (LK.sp (LK.wd ha0 (NW.cons (by decide)) (LK.sp (LK.sy (x:=[45,62]) _ (LK.sp (lk_atE he0 0 _ _ hr hk)) (by simp))))))
 have q1:textE (.mk 4 n s t [a0] [e0] ops bs)++r=([102,117,110]++(32 :: (a0++(32 :: ([45,62]++(32 :: (atT 0 e0++r))))))):=by rw [txeq_fun n s t a0 e0 [] ops bs];simp
 have q2:exK (.mk 4 n s t [a0] [e0] ops bs)++ks=(wk [102,117,110] :: (wk a0 :: (((4,[45,62],0):Ky) :: (atKE 0 e0++ks)))):=by rw [exK_mk];simp [nodeKE,behindK,spacedK,atKE]
 rw [q1,q2]
 exact h
theorem lk_app (n:Int)(s t:Txt)(ns:List Txt)(e0 e1:Ex)(ops:List (Txt × List Txt))(bs:List Ex)(he0:LkEx e0)(he1:LkEx e1):LkEx (.mk 5 n s t ns [e0,e1] ops bs):=fun r ks hr hk=>by
 have h:LK (atT 4 e0++(32 :: (atT 5 e1++r))) (atKE 4 e0++(atKE 5 e1++ks)):=(lk_atE he0 4 _ _ (NW.cons (by decide)) (LK.sp (lk_atE he1 5 _ _ hr hk)))
 have q1:textE (.mk 5 n s t ns [e0,e1] ops bs)++r=(atT 4 e0++(32 :: (atT 5 e1++r))):=by rw [txeq_app n s t ns e0 e1 [] ops bs];simp
 have q2:exK (.mk 5 n s t ns [e0,e1] ops bs)++ks=(atKE 4 e0++(atKE 5 e1++ks)):=by rw [exK_mk];simp [nodeKE,nthK,atKE]
 rw [q1,q2]
 exact h
theorem lk_let (n:Int)(s t:Txt)(e0 e1:Ex)(a0:Txt)(ops:List (Txt × List Txt))(bs:List Ex)(ha0:WOk a0)(he0:LkEx e0)(he1:LkEx e1):LkEx (.mk 6 n s t [a0] [e0,e1] ops bs):=fun r ks hr hk=>by
 have h:LK ([108,101,116]++(32 :: (a0++(32 :: ([61]++(32 :: (atT 0 e0++(32 :: ([105,110]++(32 :: (atT 0 e1++r))))))))))) (wk [108,101,116] :: (wk a0 :: (((4,[61],0):Ky) :: (atKE 0 e0++(wk [105,110] :: (atKE 0 e1++ks)))))):=(LK.wd ⟨by simp,by decide,by decide⟩ (NW.cons (by decide)) (LK.sp (LK.wd ha0 (NW.cons (by decide)) (LK.sp (LK.sy2 (x:=[61]) _ (lk_atE he0 0 _ _ (NW.cons (by decide)) (LK.sp (LK.wd ⟨by simp,by decide,by decide⟩ (NW.cons (by decide)) (LK.sp (lk_atE he1 0 _ _ hr hk))))) (by simp))))))
 have q1:textE (.mk 6 n s t [a0] [e0,e1] ops bs)++r=([108,101,116]++(32 :: (a0++(32 :: ([61]++(32 :: (atT 0 e0++(32 :: ([105,110]++(32 :: (atT 0 e1++r))))))))))):=by rw [txeq_let n s t a0 e0 e1 [] ops bs];simp
 have q2:exK (.mk 6 n s t [a0] [e0,e1] ops bs)++ks=(wk [108,101,116] :: (wk a0 :: (((4,[61],0):Ky) :: (atKE 0 e0++(wk [105,110] :: (atKE 0 e1++ks)))))):=by rw [exK_mk];simp [nodeKE,behindK,spacedK,atKE]
 rw [q1,q2]
 exact h
theorem lk_rec (n:Int)(s t:Txt)(e0 e1:Ex)(a0:Txt)(a1:Txt)(ops:List (Txt × List Txt))(bs:List Ex)(ha0:WOk a0)(ha1:WOk a1)(he0:LkEx e0)(he1:LkEx e1):LkEx (.mk 7 n s t [a0,a1] [e0,e1] ops bs):=fun r ks hr hk=>by
 have h:LK ([114,101,99]++(32 :: (a0++(32 :: (a1++(32 :: ([61]++(32 :: (atT 0 e0++(32 :: ([105,110]++(32 :: (atT 0 e1++r))))))))))))) (wk [114,101,99] :: (wk a0 :: (wk a1 :: (((4,[61],0):Ky) :: (atKE 0 e0++(wk [105,110] :: (atKE 0 e1++ks))))))):=(LK.wd ⟨by simp,by decide,by decide⟩ (NW.cons (by decide)) (LK.sp (LK.wd ha0 (NW.cons (by decide)) (LK.sp (LK.wd ha1 (NW.cons (by decide)) (LK.sp (LK.sy2 (x:=[61]) _ (lk_atE he0 0 _ _ (NW.cons (by decide)) (LK.sp (LK.wd ⟨by simp,by decide,by decide⟩ (NW.cons (by decide)) (LK.sp (lk_atE he1 0 _ _ hr hk))))) (by simp))))))))
 have q1:textE (.mk 7 n s t [a0,a1] [e0,e1] ops bs)++r=([114,101,99]++(32 :: (a0++(32 :: (a1++(32 :: ([61]++(32 :: (atT 0 e0++(32 :: ([105,110]++(32 :: (atT 0 e1++r))))))))))))):=by rw [txeq_rec n s t a0 a1 e0 e1 [] ops bs];simp
 have q2:exK (.mk 7 n s t [a0,a1] [e0,e1] ops bs)++ks=(wk [114,101,99] :: (wk a0 :: (wk a1 :: (((4,[61],0):Ky) :: (atKE 0 e0++(wk [105,110] :: (atKE 0 e1++ks))))))):=by rw [exK_mk];simp [nodeKE,behindK,spacedK,atKE]
 rw [q1,q2]
 exact h
theorem lk_if (n:Int)(s t:Txt)(ns:List Txt)(e0 e1 e2:Ex)(ops:List (Txt × List Txt))(bs:List Ex)(he0:LkEx e0)(he1:LkEx e1)(he2:LkEx e2):LkEx (.mk 8 n s t ns [e0,e1,e2] ops bs):=fun r ks hr hk=>by
 have h:LK ([105,102]++(32 :: (atT 0 e0++(32 :: ([116,104,101,110]++(32 :: (atT 0 e1++(32 :: ([101,108,115,101]++(32 :: (atT 0 e2++r))))))))))) (wk [105,102] :: (atKE 0 e0++(wk [116,104,101,110] :: (atKE 0 e1++(wk [101,108,115,101] :: (atKE 0 e2++ks)))))):=(LK.wd ⟨by simp,by decide,by decide⟩ (NW.cons (by decide)) (LK.sp (lk_atE he0 0 _ _ (NW.cons (by decide)) (LK.sp (LK.wd ⟨by simp,by decide,by decide⟩ (NW.cons (by decide)) (LK.sp (lk_atE he1 0 _ _ (NW.cons (by decide)) (LK.sp (LK.wd ⟨by simp,by decide,by decide⟩ (NW.cons (by decide)) (LK.sp (lk_atE he2 0 _ _ hr hk)))))))))))
 have q1:textE (.mk 8 n s t ns [e0,e1,e2] ops bs)++r=([105,102]++(32 :: (atT 0 e0++(32 :: ([116,104,101,110]++(32 :: (atT 0 e1++(32 :: ([101,108,115,101]++(32 :: (atT 0 e2++r))))))))))):=by rw [txeq_if n s t ns e0 e1 e2 [] ops bs];simp
 have q2:exK (.mk 8 n s t ns [e0,e1,e2] ops bs)++ks=(wk [105,102] :: (atKE 0 e0++(wk [116,104,101,110] :: (atKE 0 e1++(wk [101,108,115,101] :: (atKE 0 e2++ks)))))):=by rw [exK_mk];simp [nodeKE,behindK,atKE]
 rw [q1,q2]
 exact h
theorem lk_do (n:Int)(s t:Txt)(ns:List Txt)(e0:Ex)(ops:List (Txt × List Txt))(bs:List Ex)(hs:WOk s)(he0:LkEx e0):LkEx (.mk 12 n s t ns [e0] ops bs):=fun r ks hr hk=>by
 have h:LK ([100,111]++(32 :: (s++(32 :: (atT 5 e0++r))))) (wk [100,111] :: (wk s :: (atKE 5 e0++ks))):=(LK.wd ⟨by simp,by decide,by decide⟩ (NW.cons (by decide)) (LK.sp (LK.wd hs (NW.cons (by decide)) (LK.sp (lk_atE he0 5 _ _ hr hk)))))
 have q1:textE (.mk 12 n s t ns [e0] ops bs)++r=([100,111]++(32 :: (s++(32 :: (atT 5 e0++r))))):=by rw [txeq_do n s t ns e0 [] ops bs];simp
 have q2:exK (.mk 12 n s t ns [e0] ops bs)++ks=(wk [100,111] :: (wk s :: (atKE 5 e0++ks))):=by rw [exK_mk];simp [nodeKE,nthK,atKE]
 rw [q1,q2]
 exact h
theorem lk_atk (n:Int)(s t:Txt)(ns:List Txt)(e0:Ex)(ops:List (Txt × List Txt))(bs:List Ex)(hs:WOk s)(ht:WOk t)(he0:LkEx e0):LkEx (.mk 13 n s t ns [e0] ops bs):=fun r ks hr hk=>by
 have h:LK (s++([46]++(t++(32 :: (atT 5 e0++r))))) (wk s :: (((4,[46],0):Ky) :: (wk t :: (atKE 5 e0++ks)))):=(LK.wd hs (NW.cons (by decide)) (LK.sy (x:=[46]) _ (LK.wd ht (NW.cons (by decide)) (LK.sp (lk_atE he0 5 _ _ hr hk))) (by simp)))
 have q1:textE (.mk 13 n s t ns [e0] ops bs)++r=(s++([46]++(t++(32 :: (atT 5 e0++r))))):=by rw [txeq_atk n s t ns e0 [] ops bs];simp
 have q2:exK (.mk 13 n s t ns [e0] ops bs)++ks=(wk s :: (((4,[46],0):Ky) :: (wk t :: (atKE 5 e0++ks)))):=by rw [exK_mk];simp [nodeKE,nthK,atKE]
 rw [q1,q2]
 exact h
theorem lk_mask (n:Int)(s t:Txt)(ns:List Txt)(e0:Ex)(ops:List (Txt × List Txt))(bs:List Ex)(hs:WOk s)(he0:LkEx e0):LkEx (.mk 16 n s t ns [e0] ops bs):=fun r ks hr hk=>by
 have h:LK ([109,97,115,107]++(32 :: (s++(32 :: (atT 5 e0++r))))) (wk [109,97,115,107] :: (wk s :: (atKE 5 e0++ks))):=(LK.wd ⟨by simp,by decide,by decide⟩ (NW.cons (by decide)) (LK.sp (LK.wd hs (NW.cons (by decide)) (LK.sp (lk_atE he0 5 _ _ hr hk)))))
 have q1:textE (.mk 16 n s t ns [e0] ops bs)++r=([109,97,115,107]++(32 :: (s++(32 :: (atT 5 e0++r))))):=by rw [txeq_mask n s t ns e0 [] ops bs];simp
 have q2:exK (.mk 16 n s t ns [e0] ops bs)++ks=(wk [109,97,115,107] :: (wk s :: (atKE 5 e0++ks))):=by rw [exK_mk];simp [nodeKE,nthK,atKE]
 rw [q1,q2]
 exact h
theorem lk_resume (n:Int)(s t:Txt)(ns:List Txt)(e0:Ex)(ops:List (Txt × List Txt))(bs:List Ex)(hs:WOk s)(he0:LkEx e0):LkEx (.mk 18 n s t ns [e0] ops bs):=fun r ks hr hk=>by
 have h:LK ([114,101,115,117,109,101]++(32 :: (s++(32 :: (atT 5 e0++r))))) (wk [114,101,115,117,109,101] :: (wk s :: (atKE 5 e0++ks))):=(LK.wd ⟨by simp,by decide,by decide⟩ (NW.cons (by decide)) (LK.sp (LK.wd hs (NW.cons (by decide)) (LK.sp (lk_atE he0 5 _ _ hr hk)))))
 have q1:textE (.mk 18 n s t ns [e0] ops bs)++r=([114,101,115,117,109,101]++(32 :: (s++(32 :: (atT 5 e0++r))))):=by rw [txeq_resume n s t ns e0 [] ops bs];simp
 have q2:exK (.mk 18 n s t ns [e0] ops bs)++ks=(wk [114,101,115,117,109,101] :: (wk s :: (atKE 5 e0++ks))):=by rw [exK_mk];simp [nodeKE,nthK,atKE]
 rw [q1,q2]
 exact h
theorem lk_match (n:Int)(s t:Txt)(ns:List Txt)(e0:Ex)(ops:List (Txt × List Txt))(bs:List Ex)(he0:LkEx e0)(ho:∀ o∈ops,WOk o.1∧∀ x∈o.2,WOk x)(hb:∀ e∈bs,LkEx e)(hl:bs.length≤ops.length):LkEx (.mk 11 n s t ns [e0] ops bs):=fun r ks hr hk=>by
 have h:LK ([109,97,116,99,104]++(32 :: (atT 0 e0++(32 :: (clT ops bs++r))))) (wk [109,97,116,99,104] :: (atKE 0 e0++(((4,[123],0):Ky) :: (listKy (4,[59],0) (List.zipWith armK ops (bs.map Ex.kp))++(((4,[125],0):Ky) :: ks))))):=(LK.wd ⟨by simp,by decide,by decide⟩ (NW.cons (by decide)) (LK.sp (lk_atE he0 0 _ _ (NW.cons (by decide)) (LK.sp (lk_arms ho hb hl hk)))))
 have q1:textE (.mk 11 n s t ns [e0] ops bs)++r=([109,97,116,99,104]++(32 :: (atT 0 e0++(32 :: (clT ops bs++r))))):=by rw [txeq_match n s t ns e0 [] ops bs];simp
 have q2:exK (.mk 11 n s t ns [e0] ops bs)++ks=(wk [109,97,116,99,104] :: (atKE 0 e0++(((4,[123],0):Ky) :: (listKy (4,[59],0) (List.zipWith armK ops (bs.map Ex.kp))++(((4,[125],0):Ky) :: ks))))):=by rw [exK_mk];simp [nodeKE,bracedK,nthK,atKE]
 rw [q1,q2]
 exact h
theorem lk_handle0 (s t:Txt)(ns:List Txt)(e0:Ex)(ops:List (Txt × List Txt))(bs:List Ex)(hs:WOk s)(he0:LkEx e0)(ho:∀ o∈ops,WOk o.1∧∀ x∈o.2,WOk x)(hb:∀ e∈bs,LkEx e)(hl:bs.length≤ops.length):LkEx (.mk 14 0 s t ns [e0] ops bs):=fun r ks hr hk=>by
 have h:LK ([104,97,110,100,108,101]++(32 :: (s++(32 :: (atT 0 e0++(32 :: (clT ops bs++r))))))) (wk [104,97,110,100,108,101] :: (wk s :: (atKE 0 e0++(((4,[123],0):Ky) :: (listKy (4,[59],0) (List.zipWith armK ops (bs.map Ex.kp))++(((4,[125],0):Ky) :: ks)))))):=(LK.wd ⟨by simp,by decide,by decide⟩ (NW.cons (by decide)) (LK.sp (LK.wd hs (NW.cons (by decide)) (LK.sp (lk_atE he0 0 _ _ (NW.cons (by decide)) (LK.sp (lk_arms ho hb hl hk)))))))
 have q1:textE (.mk 14 0 s t ns [e0] ops bs)++r=([104,97,110,100,108,101]++(32 :: (s++(32 :: (atT 0 e0++(32 :: (clT ops bs++r))))))):=by rw [txeq_handle0 s t ns e0 [] ops bs];simp
 have q2:exK (.mk 14 0 s t ns [e0] ops bs)++ks=(wk [104,97,110,100,108,101] :: (wk s :: (atKE 0 e0++(((4,[123],0):Ky) :: (listKy (4,[59],0) (List.zipWith armK ops (bs.map Ex.kp))++(((4,[125],0):Ky) :: ks)))))):=by rw [exK_mk];simp [nodeKE,bracedK,nthK,atKE]
 rw [q1,q2]
 exact h
theorem lk_handle1 (s t:Txt)(ns:List Txt)(e0:Ex)(ops:List (Txt × List Txt))(bs:List Ex)(hs:WOk s)(he0:LkEx e0)(ho:∀ o∈ops,WOk o.1∧∀ x∈o.2,WOk x)(hb:∀ e∈bs,LkEx e)(hl:bs.length≤ops.length):LkEx (.mk 14 1 s t ns [e0] ops bs):=fun r ks hr hk=>by
 have h:LK ([115,104,97,108,108,111,119]++(32 :: (s++(32 :: (atT 0 e0++(32 :: (clT ops bs++r))))))) (wk [115,104,97,108,108,111,119] :: (wk s :: (atKE 0 e0++(((4,[123],0):Ky) :: (listKy (4,[59],0) (List.zipWith armK ops (bs.map Ex.kp))++(((4,[125],0):Ky) :: ks)))))):=(LK.wd ⟨by simp,by decide,by decide⟩ (NW.cons (by decide)) (LK.sp (LK.wd hs (NW.cons (by decide)) (LK.sp (lk_atE he0 0 _ _ (NW.cons (by decide)) (LK.sp (lk_arms ho hb hl hk)))))))
 have q1:textE (.mk 14 1 s t ns [e0] ops bs)++r=([115,104,97,108,108,111,119]++(32 :: (s++(32 :: (atT 0 e0++(32 :: (clT ops bs++r))))))):=by rw [txeq_handle1 s t ns e0 [] ops bs];simp
 have q2:exK (.mk 14 1 s t ns [e0] ops bs)++ks=(wk [115,104,97,108,108,111,119] :: (wk s :: (atKE 0 e0++(((4,[123],0):Ky) :: (listKy (4,[59],0) (List.zipWith armK ops (bs.map Ex.kp))++(((4,[125],0):Ky) :: ks)))))):=by rw [exK_mk];simp [nodeKE,bracedK,nthK,atKE]
 rw [q1,q2]
 exact h
theorem lk_named (n:Int)(s t:Txt)(e0:Ex)(a0:Txt)(ops:List (Txt × List Txt))(bs:List Ex)(ha0:WOk a0)(hs:WOk s)(he0:LkEx e0)(ho:∀ o∈ops,WOk o.1∧∀ x∈o.2,WOk x)(hb:∀ e∈bs,LkEx e)(hl:bs.length≤ops.length):LkEx (.mk 15 n s t [a0] [e0] ops bs):=fun r ks hr hk=>by
 have h:LK ([110,97,109,101,100]++(32 :: (a0++(32 :: (s++(32 :: (atT 0 e0++(32 :: (clT ops bs++r))))))))) (wk [110,97,109,101,100] :: (wk a0 :: (wk s :: (atKE 0 e0++(((4,[123],0):Ky) :: (listKy (4,[59],0) (List.zipWith armK ops (bs.map Ex.kp))++(((4,[125],0):Ky) :: ks))))))):=(LK.wd ⟨by simp,by decide,by decide⟩ (NW.cons (by decide)) (LK.sp (LK.wd ha0 (NW.cons (by decide)) (LK.sp (LK.wd hs (NW.cons (by decide)) (LK.sp (lk_atE he0 0 _ _ (NW.cons (by decide)) (LK.sp (lk_arms ho hb hl hk)))))))))
 have q1:textE (.mk 15 n s t [a0] [e0] ops bs)++r=([110,97,109,101,100]++(32 :: (a0++(32 :: (s++(32 :: (atT 0 e0++(32 :: (clT ops bs++r))))))))):=by rw [txeq_named n s t a0 e0 [] ops bs];simp
 have q2:exK (.mk 15 n s t [a0] [e0] ops bs)++ks=(wk [110,97,109,101,100] :: (wk a0 :: (wk s :: (atKE 0 e0++(((4,[123],0):Ky) :: (listKy (4,[59],0) (List.zipWith armK ops (bs.map Ex.kp))++(((4,[125],0):Ky) :: ks))))))):=by rw [exK_mk];simp [nodeKE,bracedK,nthK,atKE]
 rw [q1,q2]
 exact h
theorem lk_var (n:Int)(s t:Txt)(ns:List Txt)(l:List Ex)(ops:List (Txt × List Txt))(bs:List Ex)(hs:WOk s):LkEx (.mk 0 n s t ns l ops bs):=fun r ks hr hk=>by
 have q1:textE (.mk 0 n s t ns l ops bs)++r=s++r:=by unfold textE;rw [pcs_mk];simp [nodeP]
 have q2:exK (.mk 0 n s t ns l ops bs)++ks=wk s :: ks:=by rw [exK_mk];simp [nodeKE]
 rw [q1,q2]
 exact LK.wd hs hr hk
theorem lk_bool (n:Int)(s t:Txt)(ns:List Txt)(l:List Ex)(ops:List (Txt × List Txt))(bs:List Ex):LkEx (.mk 2 n s t ns l ops bs):=fun r ks hr hk=>by
 by_cases h0:n=0
 ·have q1:textE (.mk 2 n s t ns l ops bs)++r=[102,97,108,115,101]++r:=by unfold textE;rw [pcs_mk];simp [nodeP,h0]
  have q2:exK (.mk 2 n s t ns l ops bs)++ks=wk [102,97,108,115,101] :: ks:=by rw [exK_mk];simp [nodeKE,h0]
  rw [q1,q2]
  exact LK.wd ⟨by simp,by decide,by decide⟩ hr hk
 ·have q1:textE (.mk 2 n s t ns l ops bs)++r=[116,114,117,101]++r:=by unfold textE;rw [pcs_mk];simp [nodeP,h0]
  have q2:exK (.mk 2 n s t ns l ops bs)++ks=wk [116,114,117,101] :: ks:=by rw [exK_mk];simp [nodeKE,h0]
  rw [q1,q2]
  exact LK.wd ⟨by simp,by decide,by decide⟩ hr hk
theorem lk_unit (n:Int)(s t:Txt)(ns:List Txt)(l:List Ex)(ops:List (Txt × List Txt))(bs:List Ex):LkEx (.mk 3 n s t ns l ops bs):=fun r ks hr hk=>by
 have q1:textE (.mk 3 n s t ns l ops bs)++r=[40]++([41]++r):=by unfold textE;rw [pcs_mk];simp [nodeP]
 have q2:exK (.mk 3 n s t ns l ops bs)++ks=(4,[40],0) :: (4,[41],0) :: ks:=by rw [exK_mk];simp [nodeKE]
 rw [q1,q2]
 exact LK.sy (x:=[40]) _ (LK.sy (x:=[41]) _ hk (by simp)) (by simp)
theorem lk_drop (n:Int)(s t:Txt)(ns:List Txt)(l:List Ex)(ops:List (Txt × List Txt))(bs:List Ex)(hs:WOk s):LkEx (.mk 19 n s t ns l ops bs):=fun r ks hr hk=>by
 have q1:textE (.mk 19 n s t ns l ops bs)++r=[100,114,111,112]++(32 :: (s++r)):=by unfold textE;rw [pcs_mk];simp [nodeP]
 have q2:exK (.mk 19 n s t ns l ops bs)++ks=wk [100,114,111,112] :: wk s :: ks:=by rw [exK_mk];simp [nodeKE]
 rw [q1,q2]
 exact LK.wd ⟨by simp,by decide,by decide⟩ (NW.cons (by decide)) (LK.sp (LK.wd hs hr hk))
theorem lk_op {s r:Txt}{lv:Int}{ks:List Ky}(h:opLv s=some lv)(hk:LK r ks):LK (s++(32 :: r)) ((4,s,0) :: ks):=by
 unfold opLv at h
 split at h
 ·rename_i h1;subst h1;exact LK.sy (x:=[42]) _ (LK.sp hk) (by simp)
 ·split at h
  ·rename_i h1
   rcases h1 with rfl | rfl
   ·exact LK.sy (x:=[43]) _ (LK.sp hk) (by simp)
   ·exact LK.sy2 (x:=[45]) _ hk (by simp)
  ·split at h
   ·rename_i h1
    rcases h1 with rfl | rfl
    ·exact LK.sy (x:=[60]) _ (LK.sp hk) (by simp)
    ·exact LK.sy (x:=[61,61]) _ (LK.sp hk) (by simp)
   ·cases h
theorem lk_bin (n:Int)(s t:Txt)(ns:List Txt)(e0 e1:Ex)(ops:List (Txt × List Txt))(bs:List Ex)(lv:Int)(h:opLv s=some lv)(he0:LkEx e0)(he1:LkEx e1):LkEx (.mk 9 n s t ns [e0,e1] ops bs):=fun r ks hr hk=>by
 have q1:textE (.mk 9 n s t ns [e0,e1] ops bs)++r=atT (operandLv lv) e0++(32 :: (s++(32 :: (atT (lv+1) e1++r)))):=by
  unfold textE atT
  rw [pcs_mk]
  simp [nodeP,nth,h]
 have q2:exK (.mk 9 n s t ns [e0,e1] ops bs)++ks=atKE (operandLv lv) e0++((4,s,0) :: (atKE (lv+1) e1++ks)):=by rw [exK_mk];simp [nodeKE,nthK,atKE,h]
 rw [q1,q2]
 exact lk_atE he0 _ _ _ (NW.cons (by decide)) (LK.sp (lk_op h (lk_atE he1 _ _ _ hr hk)))
theorem lk_con (n:Int)(s t:Txt)(ns:List Txt)(l:List Ex)(ops:List (Txt × List Txt))(bs:List Ex)(hs:WOk s)(hl:∀ e∈l,LkEx e):LkEx (.mk 10 n s t ns l ops bs):=fun r ks hr hk=>by
 by_cases h0:l.length=0
 ·have:l=[]:=List.length_eq_zero_iff.1 h0
  subst this
  have q1:textE (.mk 10 n s t ns [] ops bs)++r=s++r:=by unfold textE;rw [pcs_mk];simp [nodeP]
  have q2:exK (.mk 10 n s t ns [] ops bs)++ks=wk s :: ks:=by rw [exK_mk];simp [nodeKE]
  rw [q1,q2]
  exact LK.wd hs hr hk
 ·have hj:=lk_join 44 (.inl rfl) (l.map fun e=>(atT 0 e,atKE 0 e)) (fun p hp=>by
   obtain ⟨e,he,rfl⟩:=List.mem_map.1 hp
   exact lk_atE (hl e he) 0) ([93]++r) (((4,[93],0):Ky) :: ks) (NW.cons (by decide)) (LK.sy (x:=[93]) _ hk (by simp))
  rw [List.map_map,List.map_map] at hj
  have q1:textE (.mk 10 n s t ns l ops bs)++r=s++([91]++(Lib.join (l.map (atT 0)) [44,32]++([93]++r))):=by
   rw [txeq_con n s t ns l ops bs (by omega)]
   simp [lsT]
  have q2:exK (.mk 10 n s t ns l ops bs)++ks=wk s :: (4,[91],0) :: (listKy (4,[44],0) (l.map (atKE 0))++((4,[93],0) :: ks)):=by
   rw [exK_mk]
   have e:(l.map Ex.kp).map (atK' 0)=l.map (atKE 0):=by rw [List.map_map];rfl
   show (wk s :: (if (l.map Ex.kp).length=0 then [] else (4,[91],0) :: (listKy (4,[44],0) ((l.map Ex.kp).map (atK' 0))++[(4,[93],0)])))++ks=_
   rw [if_neg (by rw [List.length_map];exact h0),e]
   simp
  rw [q1,q2]
  exact LK.wd hs (NW.cons (by decide)) (LK.sy (x:=[91]) _ hj (by simp))
theorem lk_using (n:Int)(s t:Txt)(a0:Txt)(rn:List Txt)(e0 e1 e2:Ex)(ops:List (Txt × List Txt))(bs:List Ex)(h0:WOk a0)(hn:∀ x∈rn,WOk x)(he0:LkEx e0)(he1:LkEx e1)(he2:LkEx e2):LkEx (.mk 17 n s t (a0 :: rn) [e0,e1,e2] ops bs):=fun r ks hr hk=>by
 have hb:LK ([93]++(32 :: ([61]++(32 :: (atT 0 e0++(32 :: ([99,108,111,115,101]++(32 :: (atT 0 e1++(32 :: ([105,110]++(32 :: (atT 0 e2++r)))))))))))))
   (((4,[93],0):Ky) :: (4,[61],0) :: (atKE 0 e0++(wk [99,108,111,115,101] :: (atKE 0 e1++(wk [105,110] :: (atKE 0 e2++ks)))))) :=
  LK.sy (x:=[93]) _ (LK.sp (LK.sy2 (x:=[61]) _ (lk_atE he0 0 _ _ (NW.cons (by decide)) (LK.sp (LK.wd ⟨by simp,by decide,by decide⟩ (NW.cons (by decide)) (LK.sp (lk_atE he1 0 _ _ (NW.cons (by decide)) (LK.sp (LK.wd ⟨by simp,by decide,by decide⟩ (NW.cons (by decide)) (LK.sp (lk_atE he2 0 _ _ hr hk))))))))) (by simp))) (by simp)
 have hj:=lk_join 44 (.inl rfl) (rn.map fun x=>(x,[wk x])) (fun p hp=>by
  obtain ⟨x,hx,rfl⟩:=List.mem_map.1 hp
  exact lk_word (hn x hx)) _ _ (NW.cons (by decide)) hb
 rw [List.map_map,List.map_map] at hj
 have hid:rn.map ((fun p:Txt × List Ky=>p.1) ∘ fun x=>(x,[wk x]))=rn:=by
  rw [show ((fun p:Txt × List Ky=>p.1) ∘ fun x:Txt=>(x,[wk x]))=id from rfl,List.map_id]
 rw [hid] at hj
 have q1:textE (.mk 17 n s t (a0 :: rn) [e0,e1,e2] ops bs)++r=[117,115,105,110,103]++(32 :: (a0++(32 :: ([91]++(Lib.join rn [44,32]++([93]++(32 :: ([61]++(32 :: (atT 0 e0++(32 :: ([99,108,111,115,101]++(32 :: (atT 0 e1++(32 :: ([105,110]++(32 :: (atT 0 e2++r)))))))))))))))))):=by
  rw [txeq_using n s t a0 rn e0 e1 e2 [] ops bs];simp
 have q2:exK (.mk 17 n s t (a0 :: rn) [e0,e1,e2] ops bs)++ks=wk [117,115,105,110,103] :: wk a0 :: (4,[91],0) :: (listKy (4,[44],0) (rn.map fun x=>[wk x])++(((4,[93],0):Ky) :: (4,[61],0) :: (atKE 0 e0++(wk [99,108,111,115,101] :: (atKE 0 e1++(wk [105,110] :: (atKE 0 e2++ks))))))):=by
  rw [exK_mk];simp [nodeKE,behindK,atKE]
 rw [q1,q2]
 exact LK.wd ⟨by simp,by decide,by decide⟩ (NW.cons (by decide)) (LK.sp (LK.wd h0 (NW.cons (by decide)) (LK.sp (LK.sy (x:=[91]) _ hj (by simp)))))
theorem cnt_eq {n:Nat}{a:Nat}(h:cntIn (n:Int) (a:Int) 0=true):n=a:=by
 unfold cntIn at h
 rw [Bool.and_eq_true,decide_eq_true_eq,decide_eq_true_eq] at h
 omega
theorem nm_wok {c:Int}{s:Txt}(hc:c=1∨c=2)(h:nameHas c s=true):WOk s:=by
 unfold nameHas at h
 rcases hc with rfl | rfl
 ·rw [if_pos rfl] at h;exact wok_v h
 ·rw [if_neg (by decide),if_pos rfl] at h;exact wok_up h
theorem nmErr_wok {c:Int}(hc:c=1∨c=2):∀ (ns seen:List Txt),nmErr c seen ns=0→∀ x∈ns,WOk x
 | [],_,_,x,hx=>by simp at hx
 | y :: r,seen,h,x,hx=>by
  rw [nmErr] at h
  split at h
  ·cases h
  ·rename_i h1
   split at h
   ·cases h
   ·rcases List.mem_cons.1 hx with rfl | hx
    ·exact nm_wok hc (by simpa using h1)
    ·exact nmErr_wok hc r _ h x hx
theorem armsErr_wok {a:Int}(ha:a=1∨a=2):∀ (ops seen:List (Txt × List Txt)),armsErr a seen ops=0→∀ o∈ops,WOk o.1∧∀ x∈o.2,WOk x
 | [],_,_,o,ho=>by simp at ho
 | p :: r,seen,h,o,ho=>by
  rw [armsErr] at h
  split at h
  ·rename_i h1
   split at h
   ·rename_i h2
    split at h
    ·cases h
    ·rcases List.mem_cons.1 ho with rfl | ho
     ·refine ⟨?_,nmErr_wok (.inl rfl) _ _ h2⟩
      unfold armErrOf armErr at h1
      rcases ha with rfl | rfl
      ·rw [if_pos rfl] at h1
       split at h1
       ·cases h1
       ·split at h1
        ·cases h1
        ·rename_i h3;exact wok_up (by simpa using h3)
      ·rw [if_neg (by decide)] at h1
       split at h1
       ·split at h1
        ·cases h1
        ·rename_i h3
         have h4:o.1=retW:=by
          have:(o.1 == retW && (o.2.length:Int) == 1)=true:=by simpa using h3
          rw [Bool.and_eq_true] at this
          simpa using this.1
         rw [h4]
         exact ⟨by simp [retW],by decide,by decide⟩
       ·split at h1
        ·cases h1
        ·split at h1
         ·cases h1
         ·rename_i h3;exact wok_v (by simpa using h3)
     ·exact armsErr_wok ha r _ h o ho
   ·rename_i h2;exact absurd h h2
  ·rename_i h1;exact absurd h h1
theorem len1 {α:Type}{l:List α}(h:l.length=1):∃ a,l=[a]:=List.length_eq_one_iff.1 h
theorem len2 {α:Type}{l:List α}(h:l.length=2):∃ a b,l=[a,b]:=by
 match l,h with
 | [a,b],_=>exact ⟨a,b,rfl⟩
theorem len3 {α:Type}{l:List α}(h:l.length=3):∃ a b c,l=[a,b,c]:=by
 match l,h with
 | [a,b,c],_=>exact ⟨a,b,c,rfl⟩
set_option maxRecDepth 20000 in
theorem lk_ex:∀ e,wfE e→evn e→LkEx e:=by
 refine Ex.ind fun e ih hw hv=>?_
 cases e with
 | mk k n s t ns l ops bs =>
 obtain ⟨hN,hwl,hwb⟩:=hw.parts
 obtain ⟨hlen,hvl,hvb⟩:=hv.parts
 obtain ⟨kn,H⟩:=shape_of hN
 have hL:∀ x∈l,LkEx x:=fun x hx=>ih x (by simp [Ex.parts,Ex.l,Ex.bs,hx]) (hwl x hx) (hvl x hx)
 have hB:∀ x∈bs,LkEx x:=fun x hx=>ih x (by simp [Ex.parts,Ex.l,Ex.bs,hx]) (hwb x hx) (hvb x hx)
 have hk:=H.hk
 have hlt:=H.lt
 have hns:k≠17→∀ x∈ns,WOk x:=fun h=>by
  have:=H.nms
  unfold nmsErr at this
  rw [if_neg h] at this
  exact nmErr_wok (.inl rfl) _ _ this
 have c1:=H.s1
 have c2:=H.t1
 have c3:=H.names
 have c4:=H.parts
 have c5:=H.num
 have c6:=H.arms
 match kn,hlt,hk,c1,c2,c3,c4,c5,c6 with
 | 0,_,hk,c1,_,_,_,_,_=>subst hk;exact lk_var n s t ns l ops bs (nm_wok (.inl rfl) c1)
 | 1,_,hk,_,_,_,_,c5,_ =>
  subst hk
  have:-999999999≤n∧n≤999999999:=by
   have h1:(decide (-999999999≤n) && decide (n≤999999999))=true:=c5
   simpa using h1
  exact lk_intE this s t ns l ops bs
 | 2,_,hk,_,_,_,_,_,_=>subst hk;exact lk_bool n s t ns l ops bs
 | 3,_,hk,_,_,_,_,_,_=>subst hk;exact lk_unit n s t ns l ops bs
 | 4,_,hk,_,_,c3,c4,_,_ =>
  subst hk
  obtain ⟨a0,rfl⟩:=len1 (cnt_eq (a:=1) c3)
  obtain ⟨e0,rfl⟩:=len1 (cnt_eq (a:=1) c4)
  exact lk_fun n s t e0 a0 ops bs (hns (by decide) _ (by simp)) (hL _ (by simp))
 | 5,_,hk,_,_,_,c4,_,_ =>
  subst hk
  obtain ⟨e0,e1,rfl⟩:=len2 (cnt_eq (a:=2) c4)
  exact lk_app n s t ns e0 e1 ops bs (hL _ (by simp)) (hL _ (by simp))
 | 6,_,hk,_,_,c3,c4,_,_ =>
  subst hk
  obtain ⟨a0,rfl⟩:=len1 (cnt_eq (a:=1) c3)
  obtain ⟨e0,e1,rfl⟩:=len2 (cnt_eq (a:=2) c4)
  exact lk_let n s t e0 e1 a0 ops bs (hns (by decide) _ (by simp)) (hL _ (by simp)) (hL _ (by simp))
 | 7,_,hk,_,_,c3,c4,_,_ =>
  subst hk
  obtain ⟨a0,a1,rfl⟩:=len2 (cnt_eq (a:=2) c3)
  obtain ⟨e0,e1,rfl⟩:=len2 (cnt_eq (a:=2) c4)
  exact lk_rec n s t e0 e1 a0 a1 ops bs (hns (by decide) _ (by simp)) (hns (by decide) _ (by simp)) (hL _ (by simp)) (hL _ (by simp))
 | 8,_,hk,_,_,_,c4,_,_ =>
  subst hk
  obtain ⟨e0,e1,e2,rfl⟩:=len3 (cnt_eq (a:=3) c4)
  exact lk_if n s t ns e0 e1 e2 ops bs (hL _ (by simp)) (hL _ (by simp)) (hL _ (by simp))
 | 9,_,hk,c1,_,_,c4,_,_ =>
  subst hk
  obtain ⟨e0,e1,rfl⟩:=len2 (cnt_eq (a:=2) c4)
  obtain ⟨lv,hlv⟩:=Option.isSome_iff_exists.1 (show (opLv s).isSome=true from c1)
  exact lk_bin n s t ns e0 e1 ops bs lv hlv (hL _ (by simp)) (hL _ (by simp))
 | 10,_,hk,c1,_,_,_,_,_=>subst hk;exact lk_con n s t ns l ops bs (nm_wok (.inr rfl) c1) hL
 | 11,_,hk,_,_,_,c4,_,c6 =>
  subst hk
  obtain ⟨e0,rfl⟩:=len1 (cnt_eq (a:=1) c4)
  exact lk_match n s t ns e0 ops bs (hL _ (by simp)) (armsErr_wok (.inl rfl) _ _ c6) hB (by omega)
 | 12,_,hk,c1,_,_,c4,_,_ =>
  subst hk
  obtain ⟨e0,rfl⟩:=len1 (cnt_eq (a:=1) c4)
  exact lk_do n s t ns e0 ops bs (nm_wok (.inl rfl) c1) (hL _ (by simp))
 | 13,_,hk,c1,c2,_,c4,_,_ =>
  subst hk
  obtain ⟨e0,rfl⟩:=len1 (cnt_eq (a:=1) c4)
  exact lk_atk n s t ns e0 ops bs (nm_wok (.inl rfl) c1) (nm_wok (.inl rfl) c2) (hL _ (by simp))
 | 14,_,hk,c1,_,_,c4,c5,c6 =>
  subst hk
  obtain ⟨e0,rfl⟩:=len1 (cnt_eq (a:=1) c4)
  have hn:n=0∨n=1:=by
   have h1:(n == 0 || n == 1)=true:=c5
   simpa using h1
  rcases hn with rfl | rfl
  ·exact lk_handle0 s t ns e0 ops bs (nm_wok (.inr rfl) c1) (hL _ (by simp)) (armsErr_wok (.inr rfl) _ _ c6) hB (by omega)
  ·exact lk_handle1 s t ns e0 ops bs (nm_wok (.inr rfl) c1) (hL _ (by simp)) (armsErr_wok (.inr rfl) _ _ c6) hB (by omega)
 | 15,_,hk,c1,_,c3,c4,_,c6 =>
  subst hk
  obtain ⟨a0,rfl⟩:=len1 (cnt_eq (a:=1) c3)
  obtain ⟨e0,rfl⟩:=len1 (cnt_eq (a:=1) c4)
  exact lk_named n s t e0 a0 ops bs (hns (by decide) _ (by simp)) (nm_wok (.inr rfl) c1) (hL _ (by simp)) (armsErr_wok (.inr rfl) _ _ c6) hB (by omega)
 | 16,_,hk,c1,_,_,c4,_,_ =>
  subst hk
  obtain ⟨e0,rfl⟩:=len1 (cnt_eq (a:=1) c4)
  exact lk_mask n s t ns e0 ops bs (nm_wok (.inr rfl) c1) (hL _ (by simp))
 | 17,_,hk,_,_,c3,c4,_,_ =>
  subst hk
  obtain ⟨e0,e1,e2,rfl⟩:=len3 (cnt_eq (a:=3) c4)
  have hm:=H.nms
  unfold nmsErr at hm
  rw [if_pos (show ((17:Nat):Int)=17 by decide)] at hm
  have hg:1≤ns.length:=by
   have h1:cntIn (ns.length:Int) 1 12=true:=c3
   unfold cntIn at h1
   rw [Bool.and_eq_true,decide_eq_true_eq,decide_eq_true_eq] at h1
   omega
  cases ns with
  | nil=>simp at hg
  | cons a0 rn =>
   split at hm
   ·rename_i h1
    exact lk_using n s t a0 rn e0 e1 e2 ops bs (nmErr_wok (.inl rfl) _ _ h1 a0 (by simp)) (nmErr_wok (.inr rfl) _ _ hm) (hL _ (by simp)) (hL _ (by simp)) (hL _ (by simp))
   ·rename_i h1;exact absurd hm h1
 | 18,_,hk,c1,_,_,c4,_,_ =>
  subst hk
  obtain ⟨e0,rfl⟩:=len1 (cnt_eq (a:=1) c4)
  exact lk_resume n s t ns e0 ops bs (nm_wok (.inl rfl) c1) (hL _ (by simp))
 | 19,_,hk,c1,_,_,_,_,_=>subst hk;exact lk_drop n s t ns l ops bs (nm_wok (.inl rfl) c1)
 | m+20,hlt,_,_,_,_,_,_,_=>omega
theorem lexS_ex {e:Ex}(h:wfE e)(hv:evn e)(hl:(textE e).length≤30000):∃ xs,lexS (textE e)=(xs,0,0)∧xs.map kyOf=exK e:=by
 obtain ⟨xs,h1,h2⟩:=lk_ex e h hv [] [] NW.nil LK.nil ((textE e).length+1) 0 (by rw [List.append_nil];omega)
 rw [List.append_nil] at h1 h2
 refine ⟨xs,?_,h2⟩
 unfold lexS
 rw [if_neg (by omega),h1,if_neg (by simp)]
theorem infoN:(Tryz.prog.info? 9).map (fun i=>(i.zero,i.size,i.bytes))=some (some (.string ⟨#[]⟩),1,16):=by kernel_rfl
set_option maxRecDepth 100000 in
set_option maxHeartbeats 2000000 in
theorem open_fail (q b g go c:Nat)(ts:List Rt)(nx dp nx2:Nat)(t:Rt)(s1 s2:ByteArray)(w:World)(h:PS w b g go c ts nx dp)(hq:S2 w q s1 s2)(hqb:q≠b)(ht:ts[nx+1]?=some t)(hk:t.k=0)(hlen:ts.length≤100000)
  (HC:Hid (∀ w',PS w' b g go c ts (nx+1+1) dp→S2 w' q s1 s2→Calls Tryz.prog 58 #[.pointer (some ⟨b,0,none⟩),.slice (some ⟨q,0,none⟩) 2 2] w' (FailTo w' b g go c ts nx2))) :
  Calls Tryz.prog 57 #[.pointer (some ⟨b,0,none⟩),.int .i64 6,.int .i64 1,.slice (some ⟨q,0,none⟩) 2 2] w (FailTo w b g go c ts nx2):=by
 obtain ⟨i0,hi,hz0,hz1,hz2⟩:=info_parts infoN
 have HL:=Lib.hid (fun w h=>lower_ok b g go c ts (nx+1) dp t w h ht hk hlen)
 have hbl:=h.blt
 have hgl:=h.lt
 have hql:=hq.1
 have hn:=(List.getElem?_eq_some_iff.1 ht).1
 have H:=Lib.hid h
 have HQ:=Lib.hid hq
 have c1:=h.c1
 have f1:=h.fr 1
 have i1:(nx:Int)+1≤100000:=by omega
 have q1:¬ w.heap.size=b:=by omega
 have q2:¬ b=w.heap.size:=by omega
 have q3:¬ w.heap.size+1=b:=by omega
 have q4:¬ b=w.heap.size+1:=by omega
 clear h hq ht hk
 go_enter Tryz.func57,Tryz.ntmps57
 go_wp2_with fail
 obtain ⟨W,hW⟩:∃ W,((w.setCell ⟨b,1,none⟩ (.int .i64 ((nx:Int)+1))).alloc (.cells #[.int .i64 0,.int .i64 0,.string ⟨#[]⟩,.string ⟨#[]⟩,.slice none 0 0,.slice none 0 0,.slice none 0 0] 27)).alloc (.cells #[.int .i64 6,.int .i64 0,.string ⟨#[]⟩,.string ⟨#[]⟩,.slice none 0 0,.slice none 0 0,.slice none 0 0] 27)=W:=⟨_,rfl⟩
 have HPW:Hid (PS W b g go c ts (nx+1) dp):=by
  rw [← hW]
  have:=H.out.set1 (nx+1)
  rw [Int.natCast_add] at this
  exact (this.below ((Below.refl _ _).alloc (Nat.le_refl _) _)).below ((Below.refl _ _).alloc (Nat.le_refl _) _)
 have HGW:Hid (w.grownBy W (some b)):=by
  rw [← hW];exact grown_trans (grown_trans (grown_set _ ⟨b,1,none⟩ _) (World.grownBy_alloc _ _ _)) (World.grownBy_alloc _ _ _)
 have HQW:=Lib.hid (HQ.out.kept HGW.out (by simp;omega))
 have HEW:Hid (EB W (w.heap.size+1) (.int .i64 6) (.int .i64 0) (.string ⟨#[]⟩) (.string ⟨#[]⟩) (.slice none 0 0) (.slice none 0 0) (.slice none 0 0)):=by
  rw [← hW]
  have:=EB.new ((w.setCell ⟨b,1,none⟩ (.int .i64 ((nx:Int)+1))).alloc (.cells #[.int .i64 0,.int .i64 0,.string ⟨#[]⟩,.string ⟨#[]⟩,.slice none 0 0,.slice none 0 0,.slice none 0 0] 27)) (.int .i64 6) (.int .i64 0) (.string ⟨#[]⟩) (.string ⟨#[]⟩) (.slice none 0 0) (.slice none 0 0) (.slice none 0 0)
  rw [World.size_alloc,size_set] at this
  exact this
 rw [hW]
 clear hW c1 f1 H HQ
 go_loopw [23] (fun i wr=>(i=.int .i64 0∧Hid (wr=W))∨(i=.int .i64 1∧Hid (PS wr b g go c ts (nx+1+1) dp)∧Hid (S2 wr q s1 s2)∧Hid (w.grownBy wr (some b)))) (fun i _=>1 - (intOf i).toNat)
 case atStart=>exact .inl ⟨rfl,Lib.hid rfl⟩
 case round =>
  rcases hrel with ⟨rfl,hw⟩ | ⟨rfl,hp,hq,hg⟩
  ·obtain rfl:=hw.out
   go_wp2_with fail
   refine (HL.out _ HPW.out).mono ?_
   rintro e w1 ⟨rfl,hw⟩
   have HP1:=Lib.hid hw.1
   have HQ1:=Lib.hid (HQW.out.kept hw.2 (by simp;omega))
   have HG1:=Lib.hid (grown_trans HGW.out hw.2)
   have HE1:=Lib.hid (HEW.out.kept hw.2 (by simp;omega))
   have e4:=HE1.out.c4
   have r4:=HE1.out.fr 4
   have hz:=HE1.out.lt
   have HN:=Lib.hid (cell_new w1 [.string (strB t.s)] 9)
   clear hw q1 q2 q3 q4 i1 hn
   go_wp2_with (at_builtin;refine wpList_append_own _ rfl _ _ 23 rfl w1.heap.size 9 i0 (.string ⟨#[]⟩) 1 16 Tryz.underlying23 hi hz0 hz1 hz2 rfl (by decide) (.slice none 0 0) 0 [] rfl (World.ownsRow_nil _ _ _ _) ⟨w1.heap.size,0,none⟩ 1 1 [.string (strB t.s)] rfl rfl HN.out (by intro u hu;simp only [List.mem_cons,List.not_mem_nil,or_false] at hu;subst hu;rfl) (by unfold maxLen;omega) (by omega) (by simp) ?_;intro v' w3 hown' hgrow _;obtain ⟨gg,cap,rfl⟩:=ownsRow_succ hown';have hgr:w1.grownBy w3 none:=grown_trans (World.grownBy_alloc w1 _ none) hgrow;have HG3:=Lib.hid hgr;have HE3:=Lib.hid (HE1.out.kept hgr (by simp));have e4':=HE3.out.c4;have r4':=HE3.out.fr 4;clear hown' hgrow hgr)
   refine ⟨.inr ⟨rfl,Lib.hid ((HP1.out.kept HG3.out (by simp) (by simp)).kept (grown_set _ ⟨w.heap.size+1,4,none⟩ _) (by simp;omega) (by simp;omega)),Lib.hid ((HQ1.out.kept HG3.out (by simp)).kept (grown_set _ ⟨w.heap.size+1,4,none⟩ _) (by simp;omega)),Lib.hid (grown_new (grown_trans HG1.out (Below.grownBy' HG3.out)) (by omega) _)⟩,by simp [intOf]⟩
  ·go_wp2_with fail
   refine (HC.out _ hp.out hq.out).mono ?_
   rintro e w1 ⟨rfl,dp',hp',hg'⟩
   exact ⟨rfl,rfl,dp',hp',grown_trans hg.out hg'⟩
theorem S2.new (w:World)(s1 s2:ByteArray)(ty:Nat):S2 (w.alloc (.cells #[.string s1,.string s2] ty)) w.heap.size s1 s2 :=
 ⟨by simp,cell_of_row _ _ 0 _ _ (0,0) (heap_alloc_new w _),cell_of_row _ _ 1 _ _ (0,0) (heap_alloc_new w _)⟩
set_option maxRecDepth 100000 in
set_option maxHeartbeats 2000000 in
theorem expr1_let_fail (x b g go c:Nat)(ts:List Rt)(nx dp nx':Nat)(t:Rt)(w:World)(h:PS w b g go c ts nx dp)(hx:BoxP w x b)(ht:ts[nx]?=some t)(hn:t.s=[108,101,116])
  (HC:Hid (∀ q w',PS w' b g go c ts nx dp→S2 w' q ⟨#[61]⟩ ⟨#[105,110]⟩→q≠b→Calls Tryz.prog 57 #[.pointer (some ⟨b,0,none⟩),.int .i64 6,.int .i64 1,.slice (some ⟨q,0,none⟩) 2 2] w' (FailTo w' b g go c ts nx'))) :
  Calls Tryz.prog 55 #[.pointer (some ⟨x,0,none⟩)] w (FailTo w b g go c ts nx'):=by
 have hbl:=h.blt
 have HP:=Lib.hid (fun w h=>peek_any b g go c ts nx dp t w h ht)
 have H0:Hid (PS (w.alloc (.cells #[.int .i64 0,.int .i64 0,.string ⟨#[]⟩,.string ⟨#[]⟩,.slice none 0 0,.slice none 0 0,.slice none 0 0] 27)) b g go c ts nx dp):=h.below ((Below.refl _ _).alloc (Nat.le_refl _) _)
 have HX0:Hid (BoxP (w.alloc (.cells #[.int .i64 0,.int .i64 0,.string ⟨#[]⟩,.string ⟨#[]⟩,.slice none 0 0,.slice none 0 0,.slice none 0 0] 27)) x b):=hx.kept (World.grownBy_alloc w _ none) (by simp)
 have HG0:Hid (w.grownBy _ (some b)):=World.grownBy_alloc w (.cells #[.int .i64 0,.int .i64 0,.string ⟨#[]⟩,.string ⟨#[]⟩,.slice none 0 0,.slice none 0 0,.slice none 0 0] 27) (some b)
 have x0:=hx.c
 have hxl:=hx.lt
 obtain ⟨S,hS⟩:∃ S,S=strB t.s:=⟨_,rfl⟩
 have q1:=ne_list hS (show t.s≠[102,117,110] by rw [hn];decide)
 have q2:=eq_list hS hn
 have fl1:=tfield1
 obtain ⟨tk,tss,tn,tp⟩:=t
 simp only at HP hS
 rw [← hS] at HP
 clear h hx ht hS hn
 go_enter Tryz.func55,Tryz.ntmps55
 go_wp2_with fail
 refine (HP.out _ H0.out).mono ?_
 rintro e w1 ⟨rfl,hb⟩
 have HP1:=Lib.hid (H0.out.below hb)
 have HX1:=Lib.hid (HX0.out.kept (grown_below hb none) (by simp))
 have HG1:=Lib.hid (grown_trans HG0.out (grown_below hb _))
 have x1:=HX1.out.c
 have hb1:=HP1.out.blt
 clear hb x0
 go_wp2_with fail
 refine (HC.out w1.heap.size _ (HP1.out.below ((Below.refl _ _).alloc (Nat.le_refl _) _)) (S2.new w1 _ _ _) (by omega)).mono ?_
 rintro e w2 ⟨rfl,dp',hp,hg⟩
 exact ⟨rfl,rfl,dp',hp,grown_trans HG1.out (grown_trans (World.grownBy_alloc _ _ _) hg)⟩
theorem flat_at:∀ (ts:List Tk) (j i:Nat) (t:Tk),ts[j]?=some t→i < 4→(flat ts)[j*4+i]?=(tkCells t)[i]?
 | [],j,i,t,h,_=>by simp at h
 | x :: r,0,i,t,h,hi=>by
  simp only [List.getElem?_cons_zero,Option.some.injEq] at h
  subst h
  show ([_,_,_,_]++flat r)[0*4+i]?=_
  rw [List.getElem?_append_left (by simp;omega)]
  simp [tkCells]
 | x :: r,j+1,i,t,h,hi=>by
  simp only [List.getElem?_cons_succ] at h
  have ih:=flat_at r j i t h hi
  show ([_,_,_,_]++flat r)[(j+1)*4+i]?=_
  rw [List.getElem?_append_right (by simp;omega),← ih]
  congr 1
  simp only [List.length_cons,List.length_nil]
  omega
def rtOf (x:Tk):Rt:=⟨x.kind,x.s,x.n,x.pos⟩
theorem tok_cells {w:World}{base g cap:Nat}{xs:List Tk}{x:Tk}{ts:List Rt}(hts:(xs++[x]).map rtOf=ts)(h:w.ownsRow base 74 4 (.slice (some ⟨g,0,none⟩) (xs.length+1) cap) (xs.length+1) (flat xs++tkCells x)) :
  ∀ (j:Nat) (t:Rt),ts[j]?=some t→CellsAt w g (0+j*4) t.cells:=by
 intro j t hj i v hi
 rw [← hts,List.getElem?_map] at hj
 cases hx:(xs++[x])[j]? with
 | none=>rw [hx] at hj;cases hj
 | some y =>
  rw [hx] at hj
  simp only [Option.map_some,Option.some.injEq] at hj
  subst hj
  have hjl:=(List.getElem?_eq_some_iff.1 hx).1
  simp only [List.length_append,List.length_cons,List.length_nil] at hjl
  have hil:i < 4:=(List.getElem?_eq_some_iff.1 hi).1
  have h1:=flat_at (xs++[x]) j i y hx hil
  rw [flat_snoc] at h1
  rw [show 0+j*4+i=j*4+i by omega,h.cellAt (j*4+i) (by omega),h1]
  exact hi
def ParseTo (w:World)(ex:Ex)(e:Ending)(w':World):Prop :=
 ∃ (k n:Int) (s t:ByteArray) (A0:Option Addr) (n0 c0:Nat) (A1:Option Addr) (n1 c1:Nat) (A2:Option Addr) (n2 c2:Nat),e=.returned (.tuple #[.agg #[.int .i64 k,.int .i64 n,.string s,.string t,.slice A0 n0 c0,.slice A1 n1 c1,.slice A2 n2 c2],.int .i64 0,.int .i64 0]) ∧
  RepE (fun x=>w.heap.size≤x) w' ex [.int .i64 k,.int .i64 n,.string s,.string t,.slice A0 n0 c0,.slice A1 n1 c1,.slice A2 n2 c2]∧Below w.heap.size w w'
def ParseFail (w:World)(pos:Int)(e:Ending)(w':World):Prop :=
 e=.returned (.tuple #[.agg #[.int .i64 0,.int .i64 0,.string ⟨#[]⟩,.string ⟨#[]⟩,.slice none 0 0,.slice none 0 0,.slice none 0 0],.int .i64 pos,.int .i64 2])∧Below w.heap.size w w'
theorem res_parse {tmps:Array Value}{w:World}{g:Nat}{v0 v1 v2 v3 v4 v5 v6 x5 x6:Value}(h4:tmps.getD 6 undef=.pointer (some ⟨g,0,none⟩))(h5:tmps.getD 7 undef=x5)(h6:tmps.getD 8 undef=x6)(h:EB w g v0 v1 v2 v3 v4 v5 v6) :
  (results Tryz.f19 tmps).run Tryz.prog w=.ok (.tuple #[.agg #[v0,v1,v2,v3,v4,v5,v6],x5,x6]) w:=by
 have c0:=h.c0
 have c1:=h.c1
 have c2:=h.c2
 have c3:=h.c3
 have c4:=h.c4
 have c5:=h.c5
 have c6:=h.c6
 have h4':tmps[6]?.getD undef=.pointer (some ⟨g,0,none⟩):=by simpa using h4
 have h5':tmps[7]?.getD undef=x5:=by simpa using h5
 have h6':tmps[8]?.getD undef=x6:=by simpa using h6
 simp [results,Tryz.results19,go_sem,h4',h5',h6',c0,c1,c2,c3,c4,c5,c6]
set_option maxRecDepth 100000 in
set_option maxHeartbeats 4000000 in
theorem parse_fail (s:ByteArray)(xs:List Tk)(ts:List Rt)(pos:Int)(w:World)(hY:Syms w)(hs:s.size≤30000)(hlex:lexS s.data.toList=(xs,0,0))(hx:0 < xs.length∧xs.length≤1000)(hts:(xs++[(⟨5,[],0,s.size⟩:Tk)]).map rtOf=ts)
  (HR:Hid (∀ b g go c w',PS w' b g go c ts 0 0→Calls Tryz.prog 53 #[.pointer (some ⟨b,0,none⟩),.func (.func 20) #[] #[]] w' (AllFail w' b pos))) :
  Calls Tryz.prog 19 #[.string s,.func (.func 20) #[] #[],.func (.func 13) #[] #[]] w (ParseFail w pos):=by
 obtain ⟨i0,hi,hz0,hz1,hz2⟩:=info_parts info43
 have hmax:s.size≤maxLen:=by unfold maxLen;omega
 have HL:=Lib.hid (fun w hY=>Lex_any s w hY hmax)
 rw [hlex] at HL
 have HYs:Hid (Syms (w.alloc (.cells #[.int .i64 0,.int .i64 0,.string ⟨#[]⟩,.string ⟨#[]⟩,.slice none 0 0,.slice none 0 0,.slice none 0 0] 27))):=hY.grown (World.grownBy_alloc _ _ none) (by simp)
 have HE0:=Lib.hid (EB.new w (.int .i64 0) (.int .i64 0) (.string ⟨#[]⟩) (.string ⟨#[]⟩) (.slice none 0 0) (.slice none 0 0) (.slice none 0 0))
 have HZ:Hid ((w.alloc (.cells #[.int .i64 0,.int .i64 0,.string ⟨#[]⟩,.string ⟨#[]⟩,.slice none 0 0,.slice none 0 0,.slice none 0 0] 27)).heap.size=w.heap.size+1):=Lib.hid (World.size_alloc _ _)
 have HB0:Hid (Below w.heap.size w (w.alloc (.cells #[.int .i64 0,.int .i64 0,.string ⟨#[]⟩,.string ⟨#[]⟩,.slice none 0 0,.slice none 0 0,.slice none 0 0] 27))):=Lib.hid ((Below.refl _ _).alloc (Nat.le_refl _) _)
 have hlen:ts.length=xs.length+1:=by rw [← hts];simp
 have htok:=Lib.hid (fun (w':World) (base g cap:Nat) (h:w'.ownsRow base 74 4 (.slice (some ⟨g,0,none⟩) (xs.length+1) cap) (xs.length+1) (flat xs++tkCells ⟨5,[],0,s.size⟩))=>tok_cells (ts:=ts) (xs:=xs) (x:=⟨5,[],0,s.size⟩) hts h)
 have hxl:0 < xs.length∧xs.length≤1000:=hx
 clear hts hx hlex hY hmax
 go_enter Tryz.func19,Tryz.ntmps19
 go_wp2_with fail
 refine (HL.out _ HYs.out).mono ?_
 rintro e w2 ⟨v,rfl,ho,hb⟩
 simp only at ho ⊢
 rcases ho.2 with ⟨_,h0⟩ | ⟨g0,cap0,cur,rfl,hg0,_⟩
 ·omega
 have hzz:=HZ.out
 have ho':=ho
 rw [hzz] at ho' hg0
 have HO2:=Lib.hid ho'
 have HE2:=Lib.hid (HE0.out.kept (grown_below hb none) (by simp))
 have HB2:Hid (Below w.heap.size w w2):=HB0.out.trans (hb.mono (by omega))
 have hzw:w.heap.size+1≤w2.heap.size:=by have:=hb.size;omega
 have hgz:w.heap.size+1≤g0:=hg0
 have HC:=Lib.hid (cell_toks w2 ⟨5,[],0,s.size⟩ 74)
 clear ho ho' hb hzz HE0 HB0 HYs HL hg0
 go_wp2_with (at_builtin;refine wpList_append_own _ rfl _ _ 69 rfl (w.heap.size+1) 74 i0 (.agg #[.int .i64 0,.string ⟨#[]⟩,.int .i64 0,.int .i64 0]) 4 40 Tryz.underlying69 hi hz0 hz1 hz2 rfl (by decide) _ _ _ rfl (HO2.out.alloc _) ⟨w2.heap.size,0,none⟩ 1 1 (tkCells ⟨5,[],0,s.size⟩) rfl rfl HC.out (tk_one ⟨5,[],0,s.size⟩) (by unfold maxLen;omega) (by omega) (by simp;omega) ?_;intro v' w3 hown' hgrow _;obtain ⟨g,cap,rfl⟩:=ownsRow_succ hown';have HT3:=Lib.hid (htok.out _ _ _ _ hown');have HGr:=Lib.hid hgrow;have hgl3:=(hown'.lt _ rfl).2;clear hown' hgrow)
 have hz3:w2.heap.size+1≤w3.heap.size:=by have:=HGr.out.size;simpa using this
 have HB3:Hid (Below w.heap.size w w3):=Lib.hid ((HB2.out.alloc (by omega) _).grown HGr.out (by simp;omega) (fun j e=>by have:g0=j:=Option.some.inj e;omega))
 have HE3:=Lib.hid (HE2.out.kept (grown_trans (World.grownBy_alloc w2 _ _) HGr.out) (fun e=>by have:w.heap.size=g0:=Option.some.inj e;omega))
 clear HGr HO2 HC HE2 HB2
 refine (HR.out w3.heap.size g 0 cap _ ⟨by rw [hlen];exact heap_alloc_new w3 _,by omega,by simp;omega,fun j t hj i v hi=>(cell_grown (World.grownBy_alloc w3 _ none) hgl3 (by simp)).trans (HT3.out j t hj i v hi)⟩).mono ?_
 rintro e w5 ⟨rfl,hg5⟩
 have HB5:Hid (Below w.heap.size w w5):=Lib.hid ((HB3.out.alloc (by omega) _).grown hg5 (by simp;omega) (fun j e=>by cases e;omega))
 have HE5:=Lib.hid ((HE3.out.kept (World.grownBy_alloc w3 _ none) (by simp)).kept hg5 (by simp;omega))
 have hz5:=HE5.out.lt
 have e0:=HE5.out.c0
 have r0:=HE5.out.fr 0
 have e1:=HE5.out.c1
 have r1:=HE5.out.fr 1
 have e2:=HE5.out.c2
 have r2:=HE5.out.fr 2
 have e3:=HE5.out.c3
 have r3:=HE5.out.fr 3
 have e4:=HE5.out.c4
 have r4:=HE5.out.fr 4
 have e5:=HE5.out.c5
 have r5:=HE5.out.fr 5
 have e6:=HE5.out.c6
 have r6:=HE5.out.fr 6
 clear hg5
 go_wp2_with fail
 exact bodyPost_ret (res_parse rfl rfl rfl ((HE5.out.all _ _ _ _ _ _ _).kept (World.grownBy_alloc _ _ none) (by simp))) rfl ⟨rfl,(HB5.out.grown (set7_grown _ _ _ _ _ _ _ _ _) (by omega) (fun j e=>by have:w.heap.size=j:=Option.some.inj e;omega)).alloc (by show _≤(set7 _ _ _ _ _ _ _ _ _).heap.size;simp [set7,World.setCell];omega) _⟩
def KAt (ts:List Rt)(nx:Nat)(ks:List Ky):Prop:=∀ (j:Nat) (k:Ky),ks[j]?=some k→∃ t,ts[nx+j]?=some t∧t.k=k.1∧t.s=k.2.1∧t.n=k.2.2
theorem KAt.left {ts:List Rt}{nx:Nat}{a b:List Ky}(h:KAt ts nx (a++b)):KAt ts nx a:=fun j k hj=>h j k (by rw [List.getElem?_append_left (List.getElem?_eq_some_iff.1 hj).1];exact hj)
theorem KAt.right {ts:List Rt}{nx:Nat}{a b:List Ky}(h:KAt ts nx (a++b)):KAt ts (nx+a.length) b:=fun j k hj=>by
 have:=h (a.length+j) k (by rw [List.getElem?_append_right (by omega),Nat.add_sub_cancel_left];exact hj)
 rwa [← Nat.add_assoc] at this
theorem KAt.tail {ts:List Rt}{nx:Nat}{k:Ky}{r:List Ky}(h:KAt ts nx (k :: r)):KAt ts (nx+1) r:=KAt.right (a:=[k]) h
theorem KAt.head {ts:List Rt}{nx:Nat}{k:Ky}{r:List Ky}(h:KAt ts nx (k :: r)):∃ t,ts[nx]?=some t∧t.k=k.1∧t.s=k.2.1∧t.n=k.2.2:=h 0 k rfl
theorem kat_of {xs:List Tk}{ks:List Ky}{pos:Nat}(h:xs.map kyOf=ks):KAt ((xs++[(⟨5,[],0,pos⟩:Tk)]).map rtOf) 0 ks:=by
 subst h
 intro j k hj
 rw [List.getElem?_map,Option.map_eq_some_iff] at hj
 obtain ⟨x,hx,rfl⟩:=hj
 refine ⟨rtOf x,?_,rfl,rfl,rfl⟩
 rw [Nat.zero_add,List.getElem?_map,List.getElem?_append_left (List.getElem?_eq_some_iff.1 hx).1,hx]
 rfl
theorem int_le:∀ (l:List UInt8) (n m:Int),0≤n→intGo n l=some m→n≤999999999→0≤m∧m≤999999999
 | [],n,m,h0,h,h1=>by simp only [intGo,Option.some.injEq] at h;omega
 | c :: r,n,m,h0,h,h1=>by
  simp only [intGo] at h
  split at h
  ·rename_i hk
   split at h
   ·cases h
   ·rename_i h2
    have h3:48≤(c.toNat:Int):=by
     unfold kb kindI at hk
     repeat' split at hk
     all_goals omega
    exact int_le r _ m (by omega) h (by omega)
  ·cases h
theorem sym_short {l:List UInt8}(h:isSym l=true):l.length≤12:=by
 unfold isSym at h
 rw [List.contains_iff_mem] at h
 have:symList.all (fun k=>decide (k.length≤12))=true:=by decide
 simpa using List.all_eq_true.1 this l h
theorem tok_small {x s:Txt}{k n:Int}(h:tokS x=some (k,s,n)):okS s∧okN n:=by
 have hN:∀ {f:Int},isNm f x=true→okS x:=fun h=>by have:=(isNm_all h).2.2.1;unfold okS maxLen;omega
 have h0:okN 0:=by unfold okN;omega
 rcases tokS_class h with ⟨_,rfl,hi⟩ | ⟨rfl,rfl,⟨_,hw⟩ | ⟨_,hw,_⟩ | ⟨_,hw⟩ | ⟨_,hw⟩⟩
 ·refine ⟨okS_nil,?_⟩
  have h1:0≤n∧n≤999999999:=by
   unfold integerS at hi
   split at hi
   ·cases hi
   ·split at hi
    ·cases hi
    ·exact int_le _ 0 n (by omega) hi (by omega)
  unfold okN;omega
 ·exact ⟨hN (isKw_nm hw),h0⟩
 ·exact ⟨hN hw,h0⟩
 ·exact ⟨hN hw,h0⟩
 ·exact ⟨by have:=sym_short hw;unfold okS maxLen;omega,h0⟩
theorem tok_ok {l:Txt}{xs:List Tk}{ts:List Rt}{p:Nat}(h:lexS l=(xs,0,0))(hl:xs.length≤30001)(hts:(xs++[(⟨5,[],0,p⟩:Tk)]).map rtOf=ts):TokOk ts:=by
 subst hts
 refine ⟨by simp;omega,fun j t hj=>?_⟩
 rw [List.getElem?_map,Option.map_eq_some_iff] at hj
 obtain ⟨x,hx,rfl⟩:=hj
 rcases List.mem_append.1 (List.mem_of_getElem? hx) with hm | hm
 ·obtain ⟨q,hq⟩:=lexS_mem h hm
  exact tok_small hq
 ·simp only [List.mem_singleton] at hm
  subst hm
  exact ⟨okS_nil,show okN 0 by unfold okN;omega⟩
def CsOk (ops:List (Txt × List Txt)):Prop:=∀ o∈ops,isNm 2 o.1=true∧∀ x∈o.2,isV x=true
def ClOk (ops:List (Txt × List Txt)):Prop:=(∀ o,ops[0]?=some o→o.1=retW)∧(∀ kk o,0 < kk→ops[kk]?=some o→isV o.1=true)∧∀ o∈ops,∀ x∈o.2,isV x=true
theorem nm_v {s:Txt}(h:nameHas 1 s=true):isV s=true:=by
 unfold nameHas at h
 rwa [if_pos rfl] at h
theorem nm_u {s:Txt}(h:nameHas 2 s=true):isNm 2 s=true:=by
 unfold nameHas at h
 rwa [if_neg (by decide),if_pos rfl] at h
theorem nm_0 {s:Txt}(h:nameHas 0 s=true):s=[]:=by
 unfold nameHas at h
 rw [if_neg (by decide),if_neg (by decide),if_neg (by decide)] at h
 simpa using h
theorem num_0 {n:Int}(h:numHas 0 n=true):n=0:=by
 unfold numHas at h
 rw [if_neg (by decide),if_neg (by decide),if_neg (by decide)] at h
 simpa using h
theorem room_0 {n:Nat}(h:roomB n 0=true):n=0:=by
 unfold roomB at h
 simpa using h
theorem cnt_0 {α:Type}{l:List α}(h:cntIn (l.length:Int) 0 0=true):l=[]:=List.length_eq_zero_iff.1 (cnt_eq (a:=0) h)
theorem nmErr_has {c:Int}:∀ (ns seen:List Txt),nmErr c seen ns=0→∀ x∈ns,nameHas c x=true
 | [],_,_,x,hx=>by simp at hx
 | y :: r,seen,h,x,hx=>by
  rw [nmErr] at h
  split at h
  ·cases h
  ·rename_i h1
   split at h
   ·cases h
   ·rcases List.mem_cons.1 hx with rfl | hx
    ·simpa using h1
    ·exact nmErr_has r _ h x hx
theorem armsErr_has {a:Int}:∀ (ops seen:List (Txt × List Txt)),armsErr a seen ops=0→∀ kk o,ops[kk]?=some o→armErrOf a o (if kk=0 then seen.isEmpty else false)=0∧∀ x∈o.2,isV x=true
 | [],_,_,kk,o,ho=>by simp at ho
 | p :: r,seen,h,kk,o,ho=>by
  rw [armsErr] at h
  split at h
  ·rename_i h1
   split at h
   ·rename_i h2
    split at h
    ·cases h
    ·cases kk with
     | zero =>
      simp only [List.getElem?_cons_zero,Option.some.injEq] at ho
      subst ho
      rw [if_pos rfl]
      exact ⟨h1,fun x hx=>nm_v (nmErr_has _ _ h2 x hx)⟩
     | succ j =>
      rw [List.getElem?_cons_succ] at ho
      have:=armsErr_has r _ h j o ho
      rw [if_neg (by omega)]
      refine ⟨?_,this.2⟩
      have h3:=this.1
      have h4:(seen++[p]).isEmpty=false:=by cases seen <;> rfl
      split at h3
      ·rwa [h4] at h3
      ·exact h3
   ·rename_i h2;exact absurd h h2
  ·rename_i h1;exact absurd h h1
theorem cs_ok {ops:List (Txt × List Txt)}(h:armsErr 1 [] ops=0):CsOk ops:=fun o ho=>by
 obtain ⟨j,hj⟩:=List.getElem?_of_mem ho
 obtain ⟨h1,h2⟩:=armsErr_has _ _ h j o hj
 refine ⟨?_,h2⟩
 unfold armErrOf armErr at h1
 rw [if_pos rfl] at h1
 split at h1
 ·cases h1
 ·split at h1
  ·cases h1
  ·rename_i h3;simpa using h3
theorem cl_ok {ops:List (Txt × List Txt)}(h:armsErr 2 [] ops=0):ClOk ops:=by
 refine ⟨fun o ho=>?_,fun kk o hk ho=>?_,fun o ho=>?_⟩
 ·have h1:=(armsErr_has _ _ h 0 o ho).1
  unfold armErrOf armErr at h1
  rw [if_neg (by decide),if_pos (by rfl)] at h1
  split at h1
  ·cases h1
  ·rename_i h3
   have:(o.1 == retW && (o.2.length:Int) == 1)=true:=by simpa using h3
   rw [Bool.and_eq_true] at this
   simpa using this.1
 ·have h1:=(armsErr_has _ _ h kk o ho).1
  rw [if_neg (by omega)] at h1
  unfold armErrOf armErr at h1
  rw [if_neg (by decide),if_neg (by decide)] at h1
  split at h1
  ·cases h1
  ·split at h1
   ·cases h1
   ·rename_i h3;simpa using h3
 ·obtain ⟨j,hj⟩:=List.getElem?_of_mem ho
  exact (armsErr_has _ _ h j o hj).2
inductive Frm:Ex→Prop where
 | var (s:Txt):isV s=true→Frm (.mk 0 0 s [] [] [] [] [])
 | int (n:Int):-999999999≤n∧n≤999999999→Frm (.mk 1 n [] [] [] [] [] [])
 | bool (n:Int):n=0∨n=1→Frm (.mk 2 n [] [] [] [] [] [])
 | unit:Frm (.mk 3 0 [] [] [] [] [] [])
 | fn (a:Txt) (e0:Ex):isV a=true→Frm (.mk 4 0 [] [] [a] [e0] [] [])
 | app (e0 e1:Ex):Frm (.mk 5 0 [] [] [] [e0,e1] [] [])
 | lett (a:Txt) (e0 e1:Ex):isV a=true→Frm (.mk 6 0 [] [] [a] [e0,e1] [] [])
 | recc (a b:Txt) (e0 e1:Ex):isV a=true→isV b=true→Frm (.mk 7 0 [] [] [a,b] [e0,e1] [] [])
 | iff (e0 e1 e2:Ex):Frm (.mk 8 0 [] [] [] [e0,e1,e2] [] [])
 | prim (s:Txt) (lv:Int) (e0 e1:Ex):opLv s=some lv→Frm (.mk 9 0 s [] [] [e0,e1] [] [])
 | con (s:Txt) (l:List Ex):isNm 2 s=true→l.length≤100→Frm (.mk 10 0 s [] [] l [] [])
 | mtch (e0:Ex) (ops:List (Txt × List Txt)) (bs:List Ex):ops.length=bs.length→bs.length≤100→CsOk ops→Frm (.mk 11 0 [] [] [] [e0] ops bs)
 | doo (s:Txt) (e0:Ex):isV s=true→Frm (.mk 12 0 s [] [] [e0] [] [])
 | att (s t:Txt) (e0:Ex):isV s=true→isV t=true→Frm (.mk 13 0 s t [] [e0] [] [])
 | handle (n:Int) (s:Txt) (e0:Ex) (ops:List (Txt × List Txt)) (bs:List Ex):n=0∨n=1→isNm 2 s=true→ops.length=bs.length→bs.length≤100→ClOk ops→Frm (.mk 14 n s [] [] [e0] ops bs)
 | named (s a:Txt) (e0:Ex) (ops:List (Txt × List Txt)) (bs:List Ex):isNm 2 s=true→isV a=true→ops.length=bs.length→bs.length≤100→ClOk ops→Frm (.mk 15 0 s [] [a] [e0] ops bs)
 | mask (s:Txt) (e0:Ex):isNm 2 s=true→Frm (.mk 16 0 s [] [] [e0] [] [])
 | usin (a:Txt) (rn:List Txt) (e0 e1 e2:Ex):isV a=true→(∀ x∈rn,isNm 2 x=true)→rn.length≤100→Frm (.mk 17 0 [] [] (a :: rn) [e0,e1,e2] [] [])
 | resume (s:Txt) (e0:Ex):isV s=true→Frm (.mk 18 0 s [] [] [e0] [] [])
 | drop (s:Txt):isV s=true→Frm (.mk 19 0 s [] [] [] [] [])
theorem room_le {n:Nat}{a:Int}(h:roomB n a=true):n≤100:=by
 unfold roomB at h
 simp only [Bool.or_eq_true,Bool.and_eq_true,decide_eq_true_eq,beq_iff_eq] at h
 omega
theorem wf_frm:∀ e,wfE e→evn e→Frm e:=by
 intro e hw hv
 cases e with
 | mk k n s t ns l ops bs =>
 obtain ⟨hN,_,_⟩:=hw.parts
 obtain ⟨hlen,_,_⟩:=hv.parts
 obtain ⟨kn,H⟩:=shape_of hN
 have hk:=H.hk
 have hlt:=H.lt
 have hns:k≠17→∀ x∈ns,isV x=true:=fun h=>by
  have:=H.nms
  unfold nmsErr at this
  rw [if_neg h] at this
  exact fun x hx=>nm_v (nmErr_has _ _ this x hx)
 have hnone:bs.length=0→ops=[]∧bs=[]:=fun h=>⟨List.length_eq_zero_iff.1 (by omega),List.length_eq_zero_iff.1 h⟩
 have c0:=H.num
 have c1:=H.s1
 have c2:=H.t1
 have c3:=H.names
 have c4:=H.parts
 have c5:=H.room
 have c6:=H.arms
 have c7:=H.nms
 clear H hN
 match kn,hlt,hk,c0,c1,c2,c3,c4,c5,c6 with
 | 0,_,hk,c0,c1,c2,c3,c4,c5,c6 =>
  subst hk
  obtain rfl:=num_0 c0
  obtain rfl:=nm_0 c2
  obtain rfl:=cnt_0 c3
  obtain rfl:=cnt_0 c4
  obtain ⟨rfl,rfl⟩:=hnone (room_0 c5)
  exact .var s (nm_v c1)
 | 1,_,hk,c0,c1,c2,c3,c4,c5,c6 =>
  subst hk
  obtain rfl:=nm_0 c1
  obtain rfl:=nm_0 c2
  obtain rfl:=cnt_0 c3
  obtain rfl:=cnt_0 c4
  obtain ⟨rfl,rfl⟩:=hnone (room_0 c5)
  exact .int n (by
   have h1:(decide (-999999999≤n) && decide (n≤999999999))=true:=c0
   simpa using h1)
 | 2,_,hk,c0,c1,c2,c3,c4,c5,c6 =>
  subst hk
  obtain rfl:=nm_0 c1
  obtain rfl:=nm_0 c2
  obtain rfl:=cnt_0 c3
  obtain rfl:=cnt_0 c4
  obtain ⟨rfl,rfl⟩:=hnone (room_0 c5)
  exact .bool n (by
   have h1:(n == 0 || n == 1)=true:=c0
   simpa using h1)
 | 3,_,hk,c0,c1,c2,c3,c4,c5,c6 =>
  subst hk
  obtain rfl:=num_0 c0
  obtain rfl:=nm_0 c1
  obtain rfl:=nm_0 c2
  obtain rfl:=cnt_0 c3
  obtain rfl:=cnt_0 c4
  obtain ⟨rfl,rfl⟩:=hnone (room_0 c5)
  exact .unit
 | 4,_,hk,c0,c1,c2,c3,c4,c5,c6 =>
  subst hk
  obtain rfl:=num_0 c0
  obtain rfl:=nm_0 c1
  obtain rfl:=nm_0 c2
  obtain ⟨a0,rfl⟩:=len1 (cnt_eq (a:=1) c3)
  obtain ⟨e0,rfl⟩:=len1 (cnt_eq (a:=1) c4)
  obtain ⟨rfl,rfl⟩:=hnone (room_0 c5)
  exact .fn a0 e0 (hns (by decide) _ (by simp))
 | 5,_,hk,c0,c1,c2,c3,c4,c5,c6 =>
  subst hk
  obtain rfl:=num_0 c0
  obtain rfl:=nm_0 c1
  obtain rfl:=nm_0 c2
  obtain rfl:=cnt_0 c3
  obtain ⟨e0,e1,rfl⟩:=len2 (cnt_eq (a:=2) c4)
  obtain ⟨rfl,rfl⟩:=hnone (room_0 c5)
  exact .app e0 e1
 | 6,_,hk,c0,c1,c2,c3,c4,c5,c6 =>
  subst hk
  obtain rfl:=num_0 c0
  obtain rfl:=nm_0 c1
  obtain rfl:=nm_0 c2
  obtain ⟨a0,rfl⟩:=len1 (cnt_eq (a:=1) c3)
  obtain ⟨e0,e1,rfl⟩:=len2 (cnt_eq (a:=2) c4)
  obtain ⟨rfl,rfl⟩:=hnone (room_0 c5)
  exact .lett a0 e0 e1 (hns (by decide) _ (by simp))
 | 7,_,hk,c0,c1,c2,c3,c4,c5,c6 =>
  subst hk
  obtain rfl:=num_0 c0
  obtain rfl:=nm_0 c1
  obtain rfl:=nm_0 c2
  obtain ⟨a0,a1,rfl⟩:=len2 (cnt_eq (a:=2) c3)
  obtain ⟨e0,e1,rfl⟩:=len2 (cnt_eq (a:=2) c4)
  obtain ⟨rfl,rfl⟩:=hnone (room_0 c5)
  exact .recc a0 a1 e0 e1 (hns (by decide) _ (by simp)) (hns (by decide) _ (by simp))
 | 8,_,hk,c0,c1,c2,c3,c4,c5,c6 =>
  subst hk
  obtain rfl:=num_0 c0
  obtain rfl:=nm_0 c1
  obtain rfl:=nm_0 c2
  obtain rfl:=cnt_0 c3
  obtain ⟨e0,e1,e2,rfl⟩:=len3 (cnt_eq (a:=3) c4)
  obtain ⟨rfl,rfl⟩:=hnone (room_0 c5)
  exact .iff e0 e1 e2
 | 9,_,hk,c0,c1,c2,c3,c4,c5,c6 =>
  subst hk
  obtain rfl:=num_0 c0
  obtain rfl:=nm_0 c2
  obtain rfl:=cnt_0 c3
  obtain ⟨e0,e1,rfl⟩:=len2 (cnt_eq (a:=2) c4)
  obtain ⟨rfl,rfl⟩:=hnone (room_0 c5)
  obtain ⟨lv,hlv⟩:=Option.isSome_iff_exists.1 (show (opLv s).isSome=true from c1)
  exact .prim s lv e0 e1 hlv
 | 10,_,hk,c0,c1,c2,c3,c4,c5,c6 =>
  subst hk
  obtain rfl:=num_0 c0
  obtain rfl:=nm_0 c2
  obtain rfl:=cnt_0 c3
  obtain ⟨rfl,rfl⟩:=hnone (room_0 c5)
  have:=(cnt_ge c4).2
  exact .con s l (nm_u c1) (by have:(l.length:Int)≤0+4:=this;omega)
 | 11,_,hk,c0,c1,c2,c3,c4,c5,c6 =>
  subst hk
  obtain rfl:=num_0 c0
  obtain rfl:=nm_0 c1
  obtain rfl:=nm_0 c2
  obtain rfl:=cnt_0 c3
  obtain ⟨e0,rfl⟩:=len1 (cnt_eq (a:=1) c4)
  exact .mtch e0 ops bs hlen (room_le c5) (cs_ok c6)
 | 12,_,hk,c0,c1,c2,c3,c4,c5,c6 =>
  subst hk
  obtain rfl:=num_0 c0
  obtain rfl:=nm_0 c2
  obtain rfl:=cnt_0 c3
  obtain ⟨e0,rfl⟩:=len1 (cnt_eq (a:=1) c4)
  obtain ⟨rfl,rfl⟩:=hnone (room_0 c5)
  exact .doo s e0 (nm_v c1)
 | 13,_,hk,c0,c1,c2,c3,c4,c5,c6 =>
  subst hk
  obtain rfl:=num_0 c0
  obtain rfl:=cnt_0 c3
  obtain ⟨e0,rfl⟩:=len1 (cnt_eq (a:=1) c4)
  obtain ⟨rfl,rfl⟩:=hnone (room_0 c5)
  exact .att s t e0 (nm_v c1) (nm_v c2)
 | 14,_,hk,c0,c1,c2,c3,c4,c5,c6 =>
  subst hk
  obtain rfl:=nm_0 c2
  obtain rfl:=cnt_0 c3
  obtain ⟨e0,rfl⟩:=len1 (cnt_eq (a:=1) c4)
  exact .handle n s e0 ops bs (by
   have h1:(n == 0 || n == 1)=true:=c0
   simpa using h1) (nm_u c1) hlen (room_le c5) (cl_ok c6)
 | 15,_,hk,c0,c1,c2,c3,c4,c5,c6 =>
  subst hk
  obtain rfl:=num_0 c0
  obtain rfl:=nm_0 c2
  obtain ⟨a0,rfl⟩:=len1 (cnt_eq (a:=1) c3)
  obtain ⟨e0,rfl⟩:=len1 (cnt_eq (a:=1) c4)
  exact .named s a0 e0 ops bs (nm_u c1) (hns (by decide) _ (by simp)) hlen (room_le c5) (cl_ok c6)
 | 16,_,hk,c0,c1,c2,c3,c4,c5,c6 =>
  subst hk
  obtain rfl:=num_0 c0
  obtain rfl:=nm_0 c2
  obtain rfl:=cnt_0 c3
  obtain ⟨e0,rfl⟩:=len1 (cnt_eq (a:=1) c4)
  obtain ⟨rfl,rfl⟩:=hnone (room_0 c5)
  exact .mask s e0 (nm_u c1)
 | 17,_,hk,c0,c1,c2,c3,c4,c5,c6 =>
  subst hk
  obtain rfl:=num_0 c0
  obtain rfl:=nm_0 c1
  obtain rfl:=nm_0 c2
  obtain ⟨e0,e1,e2,rfl⟩:=len3 (cnt_eq (a:=3) c4)
  obtain ⟨rfl,rfl⟩:=hnone (room_0 c5)
  unfold nmsErr at c7
  rw [if_pos (show ((17:Nat):Int)=17 by decide)] at c7
  have hg:1≤(ns.length:Int)∧(ns.length:Int)≤1+12:=cnt_ge c3
  cases ns with
  | nil=>simp at hg
  | cons a0 rn =>
   split at c7
   ·rename_i h1
    exact .usin a0 rn e0 e1 e2 (nm_v (nmErr_has _ _ h1 a0 (by simp))) (fun x hx=>nm_u (nmErr_has _ _ c7 x hx)) (by simp only [List.length_cons] at hg;omega)
   ·rename_i h1;exact absurd c7 h1
 | 18,_,hk,c0,c1,c2,c3,c4,c5,c6 =>
  subst hk
  obtain rfl:=num_0 c0
  obtain rfl:=nm_0 c2
  obtain rfl:=cnt_0 c3
  obtain ⟨e0,rfl⟩:=len1 (cnt_eq (a:=1) c4)
  obtain ⟨rfl,rfl⟩:=hnone (room_0 c5)
  exact .resume s e0 (nm_v c1)
 | 19,_,hk,c0,c1,c2,c3,c4,c5,c6 =>
  subst hk
  obtain rfl:=num_0 c0
  obtain rfl:=nm_0 c2
  obtain rfl:=cnt_0 c3
  obtain rfl:=cnt_0 c4
  obtain ⟨rfl,rfl⟩:=hnone (room_0 c5)
  exact .drop s (nm_v c1)
 | m+20,hlt,_,_,_,_,_,_,_,_=>omega
end Go.Proofs.YtpjabnemkmdobaaGreatDoor
namespace Go.Proofs.YtpjabnemkmdobaaGreatDoor
open Go.RowKit
theorem PS.c3 {w:World}{b g go c:Nat}{ts:List Rt}{nx dp:Nat}(h:PS w b g go c ts nx dp):w.cell? ⟨b,3,none⟩=some (.bool false):=cell_of_row w b 3 _ _ (0,0) h.blk
set_option maxRecDepth 100000 in
set_option maxHeartbeats 1000000 in
theorem upper_ok (b g go c:Nat)(ts:List Rt)(nx dp:Nat)(t:Rt)(w:World)(h:PS w b g go c ts nx dp)(ht:ts[nx]?=some t)(hk:t.k=2)(hlen:ts.length≤100000) :
  Calls Tryz.prog 89 #[.pointer (some ⟨b,0,none⟩)] w fun e w'=>e=.returned (.string (strB t.s))∧Went w w' b g go c ts (nx+1) dp:=by
 have HT:=Lib.hid (token_ok b g go c ts nx dp t w h ht hlen)
 obtain ⟨tk,tss,tn,tp⟩:=t
 simp only at hk HT ⊢
 subst hk
 obtain ⟨S,hS⟩:∃ S,S=strB tss:=⟨_,rfl⟩
 rw [← hS] at HT ⊢
 have fl1:=tfield1
 clear h ht hS
 go_enter Tryz.func89,Tryz.ntmps89
 go_wp2_with (go_at_call 84;refine (HT.out).mono ?_;rintro e w' ⟨rfl,hw⟩;have HW:=Lib.hid hw;clear hw)
 go_ret
 exact ⟨rfl,HW.out⟩
def B2 (w:World)(x ty:Nat)(u v:Value):Prop:=w.heap[x]?=some (.cells #[u,v] ty (0,0))
section
variable {w w':World} {x ty:Nat} {u v:Value}
theorem B2.lt (h:B2 w x ty u v):x < w.heap.size:=(Array.getElem?_eq_some_iff.1 h).1
theorem B2.c0 (h:B2 w x ty u v):w.cell? ⟨x,0,none⟩=some u:=cell_of_row w x 0 _ _ (0,0) h
theorem B2.c1 (h:B2 w x ty u v):w.cell? ⟨x,1,none⟩=some v:=cell_of_row w x 1 _ _ (0,0) h
theorem B2.fr (h:B2 w x ty u v)(i:Nat):w.frozen? ⟨x,i,none⟩=false:=by
 unfold B2 at h;simp [World.frozen?,h]
theorem B2.new (w:World)(ty:Nat)(u v:Value):B2 (w.alloc (.cells #[u,v] ty)) w.heap.size ty u v:=heap_alloc_new w _
theorem B2.kept (h:B2 w x ty u v){row:Option Nat}(hg:w.grownBy w' row)(hne:some x≠row):B2 w' x ty u v:=(hg.block x h.lt hne).trans h
theorem B2.set0 (h:B2 w x ty u v)(a:Value):B2 (w.setCell ⟨x,0,none⟩ a) x ty a v:=by
 unfold B2 at h ⊢;simp [World.setCell,Array.getElem?_modify,h]
theorem B2.set1 (h:B2 w x ty u v)(a:Value):B2 (w.setCell ⟨x,1,none⟩ a) x ty u a:=by
 unfold B2 at h ⊢;simp [World.setCell,Array.getElem?_modify,h]
end
end Go.Proofs.YtpjabnemkmdobaaGreatDoor
namespace Go.Proofs.YtpjabnemkmdobaaGreatDoor
open Go.RowKit
def OF (F:Prop)(w:World)(b g go c:Nat)(ts:List Rt)(Q:Ending→World→Prop)(e:Ending)(w':World):Prop :=
 Q e w'∨(F∧∃ nx,nx < ts.length∧FailTo w b g go c ts nx e w')
theorem bodyPost_retF {F:Prop}{w0:World}{b g go c:Nat}{ts:List Rt}{P:Program}{fn:Func}{R:Ending→World→Prop}{a:Act}{w:World}{v:Value}
  (h1:(results fn a.tmps).run P w=.ok v w) (h2:a.defers=[]) (h3:R (.returned v) w):bodyPost P fn (OF F w0 b g go c ts R) .ret a w :=
 bodyPost_ret h1 h2 (.inl h3)
theorem OF.out {F:Prop}{w:World}{b g go c:Nat}{ts:List Rt}{Q:Ending→World→Prop}{e:Ending}{w':World}(h:OF F w b g go c ts Q e w')(hF:¬ F):Q e w':=by
 rcases h with h | ⟨h,_⟩
 ·exact h
 ·exact absurd h hF
theorem rep_one {P:Nat→Prop}{w:World}{k n:Int}{s t:List UInt8}{e:Ex}{g:Nat}{xs:List Value}(hok:okN k∧okN n∧okS s∧okS t)(hp:P g)(hg:g < w.heap.size)(hc:CellsAt w g 0 xs)(he:RepE P w e xs) :
  RepE P w (.mk k n s t [] [e] [] []) [.int .i64 k,.int .i64 n,.string (strB s),.string (strB t),.slice none 0 0,.slice (some ⟨g,0,none⟩) 1 1,.slice none 0 0]:=by
 have h7:xs.length=7:=by
  cases e
  obtain ⟨_,_,_,_,_,_,e,_⟩:=he
  rw [e];rfl
 exact ⟨none,0,some ⟨g,0,none⟩,1,none,0,rfl,⟨hok.1,hok.2.1,hok.2.2.1,hok.2.2.2,by simp,⟨Nat.le_refl _,Nat.zero_le _⟩,⟨Nat.le_refl _,by unfold maxLen;omega⟩,⟨Nat.le_refl _,Nat.zero_le _⟩⟩,fun h=>absurd rfl h,fun _=>⟨g,0,rfl,hp,hg,⟨xs,h7,hc,he⟩,trivial⟩,fun h=>absurd rfl h,rfl⟩
theorem res_onAtom {tmps:Array Value}{w:World}{g:Nat}{v0 v1 v2 v3 v4 v5 v6:Value}(h2:tmps.getD 4 undef=.pointer (some ⟨g,0,none⟩))(h:EB w g v0 v1 v2 v3 v4 v5 v6) :
  (results Tryz.f140 tmps).run Tryz.prog w=.ok (.agg #[v0,v1,v2,v3,v4,v5,v6]) w:=by
 have c0:=h.c0
 have c1:=h.c1
 have c2:=h.c2
 have c3:=h.c3
 have c4:=h.c4
 have c5:=h.c5
 have c6:=h.c6
 have h2':tmps[4]?.getD undef=.pointer (some ⟨g,0,none⟩):=by simpa using h2
 simp [results,Tryz.results140,go_sem,h2',c0,c1,c2,c3,c4,c5,c6]
set_option maxRecDepth 100000 in
set_option maxHeartbeats 2000000 in
theorem onAtom_any {F:Prop}(b g go c:Nat)(ts:List Rt)(nx nx1 dp:Nat)(k n:Int)(s t:List UInt8)(e0:Ex)(w:World)(h:PS w b g go c ts nx dp)(hok:okN k∧okN n∧okS s∧okS t)
  (HA:Hid (∀ w',w.grownBy w' (some b)→PS w' b g go c ts nx dp→Calls Tryz.prog 118 #[.pointer (some ⟨b,0,none⟩)] w' (OF F w' b g go c ts (ExprTo w' b g go c ts nx1 dp e0)))) :
  Calls Tryz.prog 140 #[.pointer (some ⟨b,0,none⟩),.agg #[.int .i64 k,.int .i64 n,.string (strB s),.string (strB t),.slice none 0 0,.slice none 0 0,.slice none 0 0]] w (OF F w b g go c ts (ExprTo w b g go c ts nx1 dp (.mk k n s t [] [e0] [] []))):=by
 have H:=Lib.hid h
 have hbl:=h.blt
 have hgl:=h.lt
 obtain ⟨S,hS⟩:∃ S,S=strB s:=⟨_,rfl⟩
 obtain ⟨T,hT⟩:∃ T,T=strB t:=⟨_,rfl⟩
 rw [← hS,← hT]
 have HSe:=Lib.hid hS
 have HTe:=Lib.hid hT
 clear h hS hT
 go_enter Tryz.func140,Tryz.ntmps140
 go_wp2_with fail
 obtain ⟨W0,hW0⟩:∃ W0,(w.alloc (.cells #[.int .i64 k,.int .i64 n,.string S,.string T,.slice none 0 0,.slice none 0 0,.slice none 0 0] 27)).alloc (.cells #[.int .i64 0,.int .i64 0,.string ⟨#[]⟩,.string ⟨#[]⟩,.slice none 0 0,.slice none 0 0,.slice none 0 0] 27)=W0:=⟨_,rfl⟩
 have hg0:w.grownBy W0 none:=by rw [← hW0];exact grown_trans (World.grownBy_alloc _ _ _) (World.grownBy_alloc _ _ _)
 have hz0:W0.heap.size=w.heap.size+2:=by rw [← hW0];simp
 have HU0:Hid (EB W0 w.heap.size (.int .i64 k) (.int .i64 n) (.string S) (.string T) (.slice none 0 0) (.slice none 0 0) (.slice none 0 0)):=Lib.hid (by rw [← hW0];exact (EB.new w _ _ _ _ _ _ _).kept (World.grownBy_alloc _ _ none) (by simp))
 have HT0:Hid (EB W0 (w.heap.size+1) (.int .i64 0) (.int .i64 0) (.string ⟨#[]⟩) (.string ⟨#[]⟩) (.slice none 0 0) (.slice none 0 0) (.slice none 0 0)):=Lib.hid (by
  have:=EB.new (w.alloc (.cells #[.int .i64 k,.int .i64 n,.string S,.string T,.slice none 0 0,.slice none 0 0,.slice none 0 0] 27)) (.int .i64 0) (.int .i64 0) (.string ⟨#[]⟩) (.string ⟨#[]⟩) (.slice none 0 0) (.slice none 0 0) (.slice none 0 0)
  rw [hW0,World.size_alloc] at this;exact this)
 have HP0:=Lib.hid (H.out.kept hg0 (by simp) (by simp))
 have HG0:Hid (w.grownBy W0 (some b)):=Lib.hid (Below.grownBy' hg0)
 rw [hW0]
 clear hW0 hg0
 refine (HA.out _ HG0.out HP0.out).mono ?_
 rintro e w1 (⟨k',n',s',t',A0,n0,m0,A1,n1,m1,A2,n2,m2,rfl,hr,hw⟩ | ⟨hF,nxF,hnF,rfl,dpF,hpF,hgF⟩)
 rotate_left
 ·exact ⟨rfl,.inr ⟨hF,nxF,hnF,rfl,dpF,hpF,grown_trans HG0.out hgF⟩⟩
 have HP1:=Lib.hid hw.1
 have HU1:=Lib.hid (HU0.out.kept hw.2 (by simp;omega))
 have HT1:=Lib.hid (HT0.out.kept hw.2 (by simp;omega))
 have HG1:=Lib.hid (grown_trans HG0.out hw.2)
 have hz1:w.heap.size+2≤w1.heap.size:=by have:=hw.2.size;omega
 have HR1:=Lib.hid (hr.weaken (Q:=fun x=>w.heap.size+1 < x) (fun x hx=>by omega))
 have HK:=Lib.hid hok
 have e0':=HT1.out.c0
 have r0:=HT1.out.fr 0
 have d0:=HU1.out.c0
 have e1':=HT1.out.c1
 have r1:=HT1.out.fr 1
 have d1:=HU1.out.c1
 have e2':=HT1.out.c2
 have r2:=HT1.out.fr 2
 have d2:=HU1.out.c2
 have e3':=HT1.out.c3
 have r3:=HT1.out.fr 3
 have d3:=HU1.out.c3
 have e4':=HT1.out.c4
 have r4:=HT1.out.fr 4
 have d4:=HU1.out.c4
 have e5':=HT1.out.c5
 have r5:=HT1.out.fr 5
 have d5:=HU1.out.c5
 have e6':=HT1.out.c6
 have r6:=HT1.out.fr 6
 have d6:=HU1.out.c6
 have s5:=HU1.out.fr 5
 have z1:w.heap.size < w1.heap.size:=by omega
 have z2:w.heap.size+1 < w1.heap.size:=by omega
 clear hw hr hok HA
 go_wp2_with fail
 obtain ⟨W7,hW7⟩:∃ W7,((set7 (w1.setCell ⟨w.heap.size,5,none⟩ (.slice (some ⟨w1.heap.size+1,0,none⟩) 1 1)) (w.heap.size+1) (.int .i64 k) (.int .i64 n) (.string S) (.string T) (.slice none 0 0) (.slice (some ⟨w1.heap.size+1,0,none⟩) 1 1) (.slice none 0 0)).alloc (.cells #[.int .i64 k',.int .i64 n',.string s',.string t',.slice A0 n0 m0,.slice A1 n1 m1,.slice A2 n2 m2] 27)).alloc (.cells #[.int .i64 k',.int .i64 n',.string s',.string t',.slice A0 n0 m0,.slice A1 n1 m1,.slice A2 n2 m2] 27)=W7:=⟨_,rfl⟩
 have hz7:W7.heap.size=w1.heap.size+2:=by rw [← hW7];simp [set7,World.setCell]
 have HC7:CellsAt W7 (w1.heap.size+1) 0 [.int .i64 k',.int .i64 n',.string s',.string t',.slice A0 n0 m0,.slice A1 n1 m1,.slice A2 n2 m2]:=by
  have:=cellsAt_new ((set7 (w1.setCell ⟨w.heap.size,5,none⟩ (.slice (some ⟨w1.heap.size+1,0,none⟩) 1 1)) (w.heap.size+1) (.int .i64 k) (.int .i64 n) (.string S) (.string T) (.slice none 0 0) (.slice (some ⟨w1.heap.size+1,0,none⟩) 1 1) (.slice none 0 0)).alloc (.cells #[.int .i64 k',.int .i64 n',.string s',.string t',.slice A0 n0 m0,.slice A1 n1 m1,.slice A2 n2 m2] 27)) [.int .i64 k',.int .i64 n',.string s',.string t',.slice A0 n0 m0,.slice A1 n1 m1,.slice A2 n2 m2] 27
  have hz:((set7 (w1.setCell ⟨w.heap.size,5,none⟩ (.slice (some ⟨w1.heap.size+1,0,none⟩) 1 1)) (w.heap.size+1) (.int .i64 k) (.int .i64 n) (.string S) (.string T) (.slice none 0 0) (.slice (some ⟨w1.heap.size+1,0,none⟩) 1 1) (.slice none 0 0)).alloc (.cells #[.int .i64 k',.int .i64 n',.string s',.string t',.slice A0 n0 m0,.slice A1 n1 m1,.slice A2 n2 m2] 27)).heap.size=w1.heap.size+1:=by simp [set7,World.setCell]
  rw [hz] at this
  rw [← hW7]
  exact this
 have hgs:w1.grownBy (w1.setCell ⟨w.heap.size,5,none⟩ (.slice (some ⟨w1.heap.size+1,0,none⟩) 1 1)) (some w.heap.size):=grown_set w1 ⟨w.heap.size,5,none⟩ _
 have HS7:Same (fun x=>w.heap.size+1 < x) w1 W7:=by
  rw [← hW7]
  exact (((Same.of_grown hgs (fun x hx=>by simp;omega)).trans (Same.of_grown (set7_grown _ _ _ _ _ _ _ _ _) (fun x hx=>by simp;omega))).trans (Same.of_grown (World.grownBy_alloc _ _ none) (fun _ _=>by simp))).trans (Same.of_grown (World.grownBy_alloc _ _ none) (fun _ _=>by simp))
 have HT7:EB W7 (w.heap.size+1) (.int .i64 k) (.int .i64 n) (.string S) (.string T) (.slice none 0 0) (.slice (some ⟨w1.heap.size+1,0,none⟩) 1 1) (.slice none 0 0):=by
  rw [← hW7]
  exact ((((HT1.out.kept hgs (by simp)).all _ _ _ _ _ _ _).kept (World.grownBy_alloc _ _ none) (by simp)).kept (World.grownBy_alloc _ _ none) (by simp))
 have HP7:PS W7 b g go c ts nx1 dp:=by
  rw [← hW7]
  exact (((HP1.out.kept hgs (by simp;omega) (by simp;omega)).kept (set7_grown _ _ _ _ _ _ _ _ _) (by simp;omega) (by simp;omega)).kept (World.grownBy_alloc _ _ none) (by simp) (by simp)).kept (World.grownBy_alloc _ _ none) (by simp) (by simp)
 have HG7:w.grownBy W7 (some b):=by
  rw [← hW7]
  exact grown_trans (grown_trans (grown_7 (grown_new HG1.out (Nat.le_refl _) _) (by omega) _ _ _ _ _ _ _) (World.grownBy_alloc _ _ _)) (World.grownBy_alloc _ _ _)
 unfold set7 at hW7
 rw [hW7]
 exact bodyPost_retF (res_onAtom rfl HT7) rfl ⟨k,n,S,T,none,0,0,some ⟨w1.heap.size+1,0,none⟩,1,1,none,0,0,rfl,by
  rw [HSe.out,HTe.out]
  exact (rep_one (P:=fun x=>w.heap.size+1 < x) HK.out (by omega) (by omega) HC7 (HR1.out.keep HS7)).weaken (fun x hx=>by omega),HP7,HG7⟩
def WH0 (w:World):World:=w.alloc (.cells #[.int .i64 0,.int .i64 0,.string ⟨#[]⟩,.string ⟨#[]⟩,.slice none 0 0,.slice none 0 0,.slice none 0 0] 27)
theorem WH0_below (w:World):Below w.heap.size w (WH0 w):=(Below.refl _ _).alloc (Nat.le_refl _) _
theorem WH0_E (w:World):EB (WH0 w) w.heap.size (.int .i64 0) (.int .i64 0) (.string ⟨#[]⟩) (.string ⟨#[]⟩) (.slice none 0 0) (.slice none 0 0) (.slice none 0 0):=EB.new w _ _ _ _ _ _ _
set_option maxRecDepth 100000 in
set_option maxHeartbeats 2000000 in
theorem head_do {F:Prop}(b g go c:Nat)(ts:List Rt)(nx nx1 dp:Nat)(t t1:Rt)(e0:Ex)(w:World)(h:PS w b g go c ts nx dp)(ht:ts[nx]?=some t)(hs:t.s=[100,111])(ht1:ts[nx+1]?=some t1)(hk1:t1.k=0)(hlen:ts.length≤100000)(hok:okS t1.s)
  (HA:Hid (∀ w',w.grownBy w' (some b)→PS w' b g go c ts (nx+1+1) dp→Calls Tryz.prog 118 #[.pointer (some ⟨b,0,none⟩)] w' (OF F w' b g go c ts (ExprTo w' b g go c ts nx1 dp e0)))) :
  Calls Tryz.prog 116 #[.pointer (some ⟨b,0,none⟩)] w (OF F w b g go c ts (ExprTo w b g go c ts (nx1) dp (.mk 12 0 t1.s [] [] [e0] [] []))):=by
 have HY:=Lib.hid (fun w h=>skip_yes b g go c ts nx dp t ⟨#[100,111]⟩ w h ht hs hlen)
 have HL:=Lib.hid (fun w h=>lower_ok b g go c ts (nx+1) dp t1 w h ht1 hk1 hlen)
 have H:=Lib.hid h
 have hbl:=h.blt
 have hgl:=h.lt
 obtain ⟨S,hS⟩:∃ S,S=strB t1.s:=⟨_,rfl⟩
 rw [← hS] at HL
 have HSe:=Lib.hid hS
 have HOn:Hid (∀ w',w.grownBy w' (some b)→PS w' b g go c ts (nx+1+1) dp→Calls Tryz.prog 140 #[.pointer (some ⟨b,0,none⟩),.agg #[.int .i64 12,.int .i64 0,.string S,.string ⟨#[]⟩,.slice none 0 0,.slice none 0 0,.slice none 0 0]] w' (OF F w' b g go c ts (ExprTo w' b g go c ts nx1 dp (.mk 12 0 t1.s [] [] [e0] [] [])))):=Lib.hid (fun w' hg hp=>by
  rw [hS]
  exact onAtom_any b g go c ts _ nx1 dp 12 0 t1.s [] e0 w' hp ⟨okN_small (by omega),okN_small (by omega),hok,okS_nil⟩ (Lib.hid fun w2 hg2 hp2=>HA.out w2 (grown_trans hg hg2) hp2))
 have HOk:=Lib.hid hok
 clear h ht hs ht1 hk1 hS hok
 go_enter Tryz.func116,Tryz.ntmps116
 go_wp2_with fail
 have H0:=Lib.hid (H.out.below (WH0_below w))
 have HE0:=Lib.hid (WH0_E w)
 have HG0:=Lib.hid (grown_below (WH0_below w) (some b))
 refine (HY.out _ H0.out).mono ?_
 rintro e u1 ⟨rfl,hw⟩
 have K1:=Lib.hid hw.1
 have HEa:=Lib.hid (HE0.out.kept hw.2 (by simp;omega))
 have HGa:=Lib.hid (grown_trans HG0.out hw.2)
 clear hw
 go_wp2_with fail
 refine (HL.out _ K1.out).mono ?_
 rintro e u2 ⟨rfl,hw⟩
 have K2:=Lib.hid hw.1
 have HEb:=Lib.hid (HEa.out.kept hw.2 (by simp;omega))
 have HGb:=Lib.hid (grown_trans HGa.out hw.2)
 have hz2:w.heap.size < u2.heap.size:=HEb.out.lt
 clear hw
 go_wp2_with fail
 refine (HOn.out _ HGb.out K2.out).mono ?_
 rintro e u3 (⟨k,n,s,t,A0,n0,m0,A1,n1,m1,A2,n2,m2,rfl,hr,hw⟩ | ⟨hF,nxF,hnF,rfl,dpF,hpF,hgF⟩)
 rotate_left
 ·exact ⟨rfl,.inr ⟨hF,nxF,hnF,rfl,dpF,hpF,grown_trans HGb.out hgF⟩⟩
 have HR:=Lib.hid hr
 have K3:=Lib.hid hw.1
 have HEc:=Lib.hid (HEb.out.kept hw.2 (by simp;omega))
 have HGc:=Lib.hid (grown_trans HGb.out hw.2)
 have e0:=HEc.out.c0
 have r0:=HEc.out.fr 0
 have e1:=HEc.out.c1
 have r1:=HEc.out.fr 1
 have e2:=HEc.out.c2
 have r2:=HEc.out.fr 2
 have e3:=HEc.out.c3
 have r3:=HEc.out.fr 3
 have e4:=HEc.out.c4
 have r4:=HEc.out.fr 4
 have e5:=HEc.out.c5
 have r5:=HEc.out.fr 5
 have e6:=HEc.out.c6
 have r6:=HEc.out.fr 6
 clear hr hw HA
 go_wp2_with fail
 exact bodyPost_retF (res_head rfl (HEc.out.all (.int .i64 k) (.int .i64 n) (.string s) (.string t) (.slice A0 n0 m0) (.slice A1 n1 m1) (.slice A2 n2 m2))) rfl
  ⟨k,n,s,t,A0,n0,m0,A1,n1,m1,A2,n2,m2,rfl,(HR.out.keep (Same.of_grown (set7_grown _ _ _ _ _ _ _ _ _) (fun x hx=>by simp;omega))).weaken (fun x hx=>by omega),
   K3.out.kept (set7_grown _ _ _ _ _ _ _ _ _) (by simp;omega) (by simp;omega),grown_7 HGc.out (Nat.le_refl _) _ _ _ _ _ _ _⟩
set_option maxRecDepth 100000 in
set_option maxHeartbeats 2000000 in
theorem head_mask {F:Prop}(b g go c:Nat)(ts:List Rt)(nx nx1 dp:Nat)(t t1:Rt)(e0:Ex)(w:World)(h:PS w b g go c ts nx dp)(ht:ts[nx]?=some t)(hs:t.s=[109,97,115,107])(ht1:ts[nx+1]?=some t1)(hk1:t1.k=2)(hlen:ts.length≤100000)(hok:okS t1.s)
  (HA:Hid (∀ w',w.grownBy w' (some b)→PS w' b g go c ts (nx+1+1) dp→Calls Tryz.prog 118 #[.pointer (some ⟨b,0,none⟩)] w' (OF F w' b g go c ts (ExprTo w' b g go c ts nx1 dp e0)))) :
  Calls Tryz.prog 116 #[.pointer (some ⟨b,0,none⟩)] w (OF F w b g go c ts (ExprTo w b g go c ts (nx1) dp (.mk 16 0 t1.s [] [] [e0] [] []))):=by
 have HS0:=Lib.hid (fun w h=>skip_no b g go c ts nx dp t ⟨#[100,111]⟩ w h ht (by rw [hs];decide))
 have HY:=Lib.hid (fun w h=>skip_yes b g go c ts nx dp t ⟨#[109,97,115,107]⟩ w h ht hs hlen)
 have HL:=Lib.hid (fun w h=>upper_ok b g go c ts (nx+1) dp t1 w h ht1 hk1 hlen)
 have H:=Lib.hid h
 have hbl:=h.blt
 have hgl:=h.lt
 obtain ⟨S,hS⟩:∃ S,S=strB t1.s:=⟨_,rfl⟩
 rw [← hS] at HL
 have HSe:=Lib.hid hS
 have HOn:Hid (∀ w',w.grownBy w' (some b)→PS w' b g go c ts (nx+1+1) dp→Calls Tryz.prog 140 #[.pointer (some ⟨b,0,none⟩),.agg #[.int .i64 16,.int .i64 0,.string S,.string ⟨#[]⟩,.slice none 0 0,.slice none 0 0,.slice none 0 0]] w' (OF F w' b g go c ts (ExprTo w' b g go c ts nx1 dp (.mk 16 0 t1.s [] [] [e0] [] [])))):=Lib.hid (fun w' hg hp=>by
  rw [hS]
  exact onAtom_any b g go c ts _ nx1 dp 16 0 t1.s [] e0 w' hp ⟨okN_small (by omega),okN_small (by omega),hok,okS_nil⟩ (Lib.hid fun w2 hg2 hp2=>HA.out w2 (grown_trans hg hg2) hp2))
 have HOk:=Lib.hid hok
 clear h ht hs ht1 hk1 hS hok
 go_enter Tryz.func116,Tryz.ntmps116
 go_wp2_with fail
 have H0:=Lib.hid (H.out.below (WH0_below w))
 have HE0:=Lib.hid (WH0_E w)
 have HG0:=Lib.hid (grown_below (WH0_below w) (some b))
 refine (HS0.out _ H0.out).mono ?_
 rintro e v1 ⟨rfl,hb⟩
 have H1:=Lib.hid (H0.out.below hb)
 have HE1:=Lib.hid (HE0.out.kept (grown_below hb none) (by simp))
 have HG1:=Lib.hid (grown_trans HG0.out (grown_below hb _))
 clear hb
 go_wp2_with fail
 refine (HY.out _ H1.out).mono ?_
 rintro e u1 ⟨rfl,hw⟩
 have K1:=Lib.hid hw.1
 have HEa:=Lib.hid (HE1.out.kept hw.2 (by simp;omega))
 have HGa:=Lib.hid (grown_trans HG1.out hw.2)
 clear hw
 go_wp2_with fail
 refine (HL.out _ K1.out).mono ?_
 rintro e u2 ⟨rfl,hw⟩
 have K2:=Lib.hid hw.1
 have HEb:=Lib.hid (HEa.out.kept hw.2 (by simp;omega))
 have HGb:=Lib.hid (grown_trans HGa.out hw.2)
 have hz2:w.heap.size < u2.heap.size:=HEb.out.lt
 clear hw
 go_wp2_with fail
 refine (HOn.out _ HGb.out K2.out).mono ?_
 rintro e u3 (⟨k,n,s,t,A0,n0,m0,A1,n1,m1,A2,n2,m2,rfl,hr,hw⟩ | ⟨hF,nxF,hnF,rfl,dpF,hpF,hgF⟩)
 rotate_left
 ·exact ⟨rfl,.inr ⟨hF,nxF,hnF,rfl,dpF,hpF,grown_trans HGb.out hgF⟩⟩
 have HR:=Lib.hid hr
 have K3:=Lib.hid hw.1
 have HEc:=Lib.hid (HEb.out.kept hw.2 (by simp;omega))
 have HGc:=Lib.hid (grown_trans HGb.out hw.2)
 have e0:=HEc.out.c0
 have r0:=HEc.out.fr 0
 have e1:=HEc.out.c1
 have r1:=HEc.out.fr 1
 have e2:=HEc.out.c2
 have r2:=HEc.out.fr 2
 have e3:=HEc.out.c3
 have r3:=HEc.out.fr 3
 have e4:=HEc.out.c4
 have r4:=HEc.out.fr 4
 have e5:=HEc.out.c5
 have r5:=HEc.out.fr 5
 have e6:=HEc.out.c6
 have r6:=HEc.out.fr 6
 clear hr hw HA
 go_wp2_with fail
 exact bodyPost_retF (res_head rfl (HEc.out.all (.int .i64 k) (.int .i64 n) (.string s) (.string t) (.slice A0 n0 m0) (.slice A1 n1 m1) (.slice A2 n2 m2))) rfl
  ⟨k,n,s,t,A0,n0,m0,A1,n1,m1,A2,n2,m2,rfl,(HR.out.keep (Same.of_grown (set7_grown _ _ _ _ _ _ _ _ _) (fun x hx=>by simp;omega))).weaken (fun x hx=>by omega),
   K3.out.kept (set7_grown _ _ _ _ _ _ _ _ _) (by simp;omega) (by simp;omega),grown_7 HGc.out (Nat.le_refl _) _ _ _ _ _ _ _⟩
set_option maxRecDepth 100000 in
set_option maxHeartbeats 2000000 in
theorem head_resume {F:Prop}(b g go c:Nat)(ts:List Rt)(nx nx1 dp:Nat)(t t1:Rt)(e0:Ex)(w:World)(h:PS w b g go c ts nx dp)(ht:ts[nx]?=some t)(hs:t.s=[114,101,115,117,109,101])(ht1:ts[nx+1]?=some t1)(hk1:t1.k=0)(hlen:ts.length≤100000)(hok:okS t1.s)
  (HA:Hid (∀ w',w.grownBy w' (some b)→PS w' b g go c ts (nx+1+1) dp→Calls Tryz.prog 118 #[.pointer (some ⟨b,0,none⟩)] w' (OF F w' b g go c ts (ExprTo w' b g go c ts nx1 dp e0)))) :
  Calls Tryz.prog 116 #[.pointer (some ⟨b,0,none⟩)] w (OF F w b g go c ts (ExprTo w b g go c ts (nx1) dp (.mk 18 0 t1.s [] [] [e0] [] []))):=by
 have HS0:=Lib.hid (fun w h=>skip_no b g go c ts nx dp t ⟨#[100,111]⟩ w h ht (by rw [hs];decide))
 have HS1:=Lib.hid (fun w h=>skip_no b g go c ts nx dp t ⟨#[109,97,115,107]⟩ w h ht (by rw [hs];decide))
 have HY:=Lib.hid (fun w h=>skip_yes b g go c ts nx dp t ⟨#[114,101,115,117,109,101]⟩ w h ht hs hlen)
 have HL:=Lib.hid (fun w h=>lower_ok b g go c ts (nx+1) dp t1 w h ht1 hk1 hlen)
 have H:=Lib.hid h
 have hbl:=h.blt
 have hgl:=h.lt
 obtain ⟨S,hS⟩:∃ S,S=strB t1.s:=⟨_,rfl⟩
 rw [← hS] at HL
 have HSe:=Lib.hid hS
 have HOn:Hid (∀ w',w.grownBy w' (some b)→PS w' b g go c ts (nx+1+1) dp→Calls Tryz.prog 140 #[.pointer (some ⟨b,0,none⟩),.agg #[.int .i64 18,.int .i64 0,.string S,.string ⟨#[]⟩,.slice none 0 0,.slice none 0 0,.slice none 0 0]] w' (OF F w' b g go c ts (ExprTo w' b g go c ts nx1 dp (.mk 18 0 t1.s [] [] [e0] [] [])))):=Lib.hid (fun w' hg hp=>by
  rw [hS]
  exact onAtom_any b g go c ts _ nx1 dp 18 0 t1.s [] e0 w' hp ⟨okN_small (by omega),okN_small (by omega),hok,okS_nil⟩ (Lib.hid fun w2 hg2 hp2=>HA.out w2 (grown_trans hg hg2) hp2))
 have HOk:=Lib.hid hok
 clear h ht hs ht1 hk1 hS hok
 go_enter Tryz.func116,Tryz.ntmps116
 go_wp2_with fail
 have H0:=Lib.hid (H.out.below (WH0_below w))
 have HE0:=Lib.hid (WH0_E w)
 have HG0:=Lib.hid (grown_below (WH0_below w) (some b))
 refine (HS0.out _ H0.out).mono ?_
 rintro e v1 ⟨rfl,hb⟩
 have H1:=Lib.hid (H0.out.below hb)
 have HE1:=Lib.hid (HE0.out.kept (grown_below hb none) (by simp))
 have HG1:=Lib.hid (grown_trans HG0.out (grown_below hb _))
 clear hb
 go_wp2_with fail
 refine (HS1.out _ H1.out).mono ?_
 rintro e v2 ⟨rfl,hb⟩
 have H2:=Lib.hid (H1.out.below hb)
 have HE2:=Lib.hid (HE1.out.kept (grown_below hb none) (by simp))
 have HG2:=Lib.hid (grown_trans HG1.out (grown_below hb _))
 clear hb
 go_wp2_with fail
 refine (HY.out _ H2.out).mono ?_
 rintro e u1 ⟨rfl,hw⟩
 have K1:=Lib.hid hw.1
 have HEa:=Lib.hid (HE2.out.kept hw.2 (by simp;omega))
 have HGa:=Lib.hid (grown_trans HG2.out hw.2)
 clear hw
 go_wp2_with fail
 refine (HL.out _ K1.out).mono ?_
 rintro e u2 ⟨rfl,hw⟩
 have K2:=Lib.hid hw.1
 have HEb:=Lib.hid (HEa.out.kept hw.2 (by simp;omega))
 have HGb:=Lib.hid (grown_trans HGa.out hw.2)
 have hz2:w.heap.size < u2.heap.size:=HEb.out.lt
 clear hw
 go_wp2_with fail
 refine (HOn.out _ HGb.out K2.out).mono ?_
 rintro e u3 (⟨k,n,s,t,A0,n0,m0,A1,n1,m1,A2,n2,m2,rfl,hr,hw⟩ | ⟨hF,nxF,hnF,rfl,dpF,hpF,hgF⟩)
 rotate_left
 ·exact ⟨rfl,.inr ⟨hF,nxF,hnF,rfl,dpF,hpF,grown_trans HGb.out hgF⟩⟩
 have HR:=Lib.hid hr
 have K3:=Lib.hid hw.1
 have HEc:=Lib.hid (HEb.out.kept hw.2 (by simp;omega))
 have HGc:=Lib.hid (grown_trans HGb.out hw.2)
 have e0:=HEc.out.c0
 have r0:=HEc.out.fr 0
 have e1:=HEc.out.c1
 have r1:=HEc.out.fr 1
 have e2:=HEc.out.c2
 have r2:=HEc.out.fr 2
 have e3:=HEc.out.c3
 have r3:=HEc.out.fr 3
 have e4:=HEc.out.c4
 have r4:=HEc.out.fr 4
 have e5:=HEc.out.c5
 have r5:=HEc.out.fr 5
 have e6:=HEc.out.c6
 have r6:=HEc.out.fr 6
 clear hr hw HA
 go_wp2_with fail
 exact bodyPost_retF (res_head rfl (HEc.out.all (.int .i64 k) (.int .i64 n) (.string s) (.string t) (.slice A0 n0 m0) (.slice A1 n1 m1) (.slice A2 n2 m2))) rfl
  ⟨k,n,s,t,A0,n0,m0,A1,n1,m1,A2,n2,m2,rfl,(HR.out.keep (Same.of_grown (set7_grown _ _ _ _ _ _ _ _ _) (fun x hx=>by simp;omega))).weaken (fun x hx=>by omega),
   K3.out.kept (set7_grown _ _ _ _ _ _ _ _ _) (by simp;omega) (by simp;omega),grown_7 HGc.out (Nat.le_refl _) _ _ _ _ _ _ _⟩
set_option maxRecDepth 100000 in
set_option maxHeartbeats 2000000 in
theorem head_drop {F:Prop}(b g go c:Nat)(ts:List Rt)(nx dp:Nat)(t t1:Rt)(w:World)(h:PS w b g go c ts nx dp)(ht:ts[nx]?=some t)(hs:t.s=[100,114,111,112])(ht1:ts[nx+1]?=some t1)(hk1:t1.k=0)(hlen:ts.length≤100000)(hok:okS t1.s) :
  Calls Tryz.prog 116 #[.pointer (some ⟨b,0,none⟩)] w (OF F w b g go c ts (ExprTo w b g go c ts (nx+1+1) dp (.mk 19 0 t1.s [] [] [] [] []))):=by
 have HS0:=Lib.hid (fun w h=>skip_no b g go c ts nx dp t ⟨#[100,111]⟩ w h ht (by rw [hs];decide))
 have HS1:=Lib.hid (fun w h=>skip_no b g go c ts nx dp t ⟨#[109,97,115,107]⟩ w h ht (by rw [hs];decide))
 have HS2:=Lib.hid (fun w h=>skip_no b g go c ts nx dp t ⟨#[114,101,115,117,109,101]⟩ w h ht (by rw [hs];decide))
 have HY:=Lib.hid (fun w h=>skip_yes b g go c ts nx dp t ⟨#[100,114,111,112]⟩ w h ht hs hlen)
 have HL:=Lib.hid (fun w h=>lower_ok b g go c ts (nx+1) dp t1 w h ht1 hk1 hlen)
 have H:=Lib.hid h
 have hbl:=h.blt
 have hgl:=h.lt
 obtain ⟨S,hS⟩:∃ S,S=strB t1.s:=⟨_,rfl⟩
 rw [← hS] at HL
 have HSe:=Lib.hid hS
 have HOk:=Lib.hid hok
 clear h ht hs ht1 hk1 hS hok
 go_enter Tryz.func116,Tryz.ntmps116
 go_wp2_with fail
 have H0:=Lib.hid (H.out.below (WH0_below w))
 have HE0:=Lib.hid (WH0_E w)
 have HG0:=Lib.hid (grown_below (WH0_below w) (some b))
 refine (HS0.out _ H0.out).mono ?_
 rintro e v1 ⟨rfl,hb⟩
 have H1:=Lib.hid (H0.out.below hb)
 have HE1:=Lib.hid (HE0.out.kept (grown_below hb none) (by simp))
 have HG1:=Lib.hid (grown_trans HG0.out (grown_below hb _))
 clear hb
 go_wp2_with fail
 refine (HS1.out _ H1.out).mono ?_
 rintro e v2 ⟨rfl,hb⟩
 have H2:=Lib.hid (H1.out.below hb)
 have HE2:=Lib.hid (HE1.out.kept (grown_below hb none) (by simp))
 have HG2:=Lib.hid (grown_trans HG1.out (grown_below hb _))
 clear hb
 go_wp2_with fail
 refine (HS2.out _ H2.out).mono ?_
 rintro e v3 ⟨rfl,hb⟩
 have H3:=Lib.hid (H2.out.below hb)
 have HE3:=Lib.hid (HE2.out.kept (grown_below hb none) (by simp))
 have HG3:=Lib.hid (grown_trans HG2.out (grown_below hb _))
 clear hb
 go_wp2_with fail
 refine (HY.out _ H3.out).mono ?_
 rintro e u1 ⟨rfl,hw⟩
 have K1:=Lib.hid hw.1
 have HEa:=Lib.hid (HE3.out.kept hw.2 (by simp;omega))
 have HGa:=Lib.hid (grown_trans HG3.out hw.2)
 clear hw
 go_wp2_with fail
 refine (HL.out _ K1.out).mono ?_
 rintro e u2 ⟨rfl,hw⟩
 have K2:=Lib.hid hw.1
 have HEb:=Lib.hid (HEa.out.kept hw.2 (by simp;omega))
 have HGb:=Lib.hid (grown_trans HGa.out hw.2)
 have hz2:w.heap.size < u2.heap.size:=HEb.out.lt
 clear hw
 have e0:=HEb.out.c0
 have r0:=HEb.out.fr 0
 have e1:=HEb.out.c1
 have r1:=HEb.out.fr 1
 have e2:=HEb.out.c2
 have r2:=HEb.out.fr 2
 have e3:=HEb.out.c3
 have r3:=HEb.out.fr 3
 have e4:=HEb.out.c4
 have r4:=HEb.out.fr 4
 have e5:=HEb.out.c5
 have r5:=HEb.out.fr 5
 have e6:=HEb.out.c6
 have r6:=HEb.out.fr 6
 go_wp2_with fail
 exact bodyPost_retF (res_head rfl (HEb.out.all _ _ _ _ _ _ _)) rfl
  ⟨19,0,S,⟨#[]⟩,none,0,0,none,0,0,none,0,0,rfl,by rw [HSe.out];exact rep_leaf (okN_small (by omega)) (okN_small (by omega)) HOk.out,K2.out.kept (set7_grown _ _ _ _ _ _ _ _ _) (by simp;omega) (by simp;omega),grown_7 HGb.out (Nat.le_refl _) _ _ _ _ _ _ _⟩
end Go.Proofs.YtpjabnemkmdobaaGreatDoor
