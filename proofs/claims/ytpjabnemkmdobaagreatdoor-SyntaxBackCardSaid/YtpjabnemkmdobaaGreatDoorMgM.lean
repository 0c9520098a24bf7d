/- Texts put together by program: SmC RLeft RefB RChkA RChkB RChkC RChkD. -/
import Derived.Test.YtpjabnemkmdobaaGreatDoorMgL
import Derived.Test.YtpjabnemkmdobaaGreatDoorMgG
import Derived.BigQuiet
import Derived.Deep.QuietTactic
import Derived.Test.YtpjabnemkmdobaaGreatDoorMgF
import Derived.Test.YtpjabnemkmdobaaGreatDoorMgA
import Derived.Test.YtpjabnemkmdobaaGreatDoorMgE
import Derived.Deep.RegionHeld3
import Derived.Test.YtpjabnemkmdobaaGreatDoorMgB
import Derived.Deep.LoopGhost
namespace Go.Proofs.YtpjabnemkmdobaaGreatDoor
open Go.RowKit
def SmSays (f:Nat)(a:Ex):Prop:=∀ (b:Ex) (cs1 cs2:List Value) (w:World),RepE (fun _=>True) w a cs1→RepE (fun _=>True) w b cs2→Calls Tryz.prog f #[.agg cs1.toArray,.agg cs2.toArray] w fun r w'=>r=.returned (.bool (sameE a b))∧Below w.heap.size w w'
theorem ArmCells.up {B b o:Nat}{w W1:World}{h:Txt × List Txt}{e:Ex}{An:Option Addr}{cn:Nat}{k n:Int}{s t:ByteArray}{A0:Option Addr}{n0 c0:Nat}{A1:Option Addr}{n1 c1:Nat}{A2:Option Addr}{n2 c2:Nat}(H:ArmCells B w b o h e An cn k n s t A0 n0 c0 A1 n1 c1 A2 n2 c2)(hb:b < w.heap.size)(hB:Below w.heap.size w W1) :
  W1.cell? ⟨b,o,none⟩=some (.string (strB h.1))∧W1.cell? ⟨b,o+1,none⟩=some (.slice An h.2.length cn)∧W1.cell? ⟨b,o+2,none⟩=some (.int .i64 k)∧W1.cell? ⟨b,o+3,none⟩=some (.int .i64 n)∧W1.cell? ⟨b,o+4,none⟩=some (.string s)∧W1.cell? ⟨b,o+5,none⟩=some (.string t)∧W1.cell? ⟨b,o+6,none⟩=some (.slice A0 n0 c0)∧W1.cell? ⟨b,o+7,none⟩=some (.slice A1 n1 c1)∧W1.cell? ⟨b,o+8,none⟩=some (.slice A2 n2 c2):=by
 have k:∀ o,W1.cell? ⟨b,o,none⟩=w.cell? ⟨b,o,none⟩:=fun o=>Below.cell (p:=⟨b,o,none⟩) hB hb
 exact ⟨(k _).trans H.d0,(k _).trans H.d1,(k _).trans H.d2,(k _).trans H.d3,(k _).trans H.d4,(k _).trans H.d5,(k _).trans H.d6,(k _).trans H.d7,(k _).trans H.d8⟩
set_option maxRecDepth 100000 in
set_option maxHeartbeats 8000000 in
theorem rSame_any:∀ a,SmSays 9 a:=by
 refine Ex.ind fun a ih b cs1 cs2 w h1 h2=>?_
 cases a with
 | mk k n s t ns l ops bs =>
 cases b with
 | mk k' n' s' t' ns' l' ops' bs' =>
 have hE:=sameE_eq (.mk k n s t ns l ops bs) (.mk k' n' s' t' ns' l' ops' bs')
 have h1':=h1.tight.weaken (Q:=fun b=>b < w.heap.size) (fun x hx=>hx.2)
 have h2':=h2.tight.weaken (Q:=fun b=>b < w.heap.size) (fun x hx=>hx.2)
 obtain ⟨An,cn,Al,cl,Aa,ca,rfl,hf,hn,hl,ha,ho⟩:=h1'
 obtain ⟨Bn,dn,Bl,dl,Ba,da,rfl,hf',hn',hl',ha',ho'⟩:=h2'
 have bd1:ns.length≤maxLen:=Nat.le_trans hf.hcn.1 hf.hcn.2
 have bd1':ns'.length≤maxLen:=Nat.le_trans hf'.hcn.1 hf'.hcn.2
 have bd2:l.length≤maxLen:=Nat.le_trans hf.hcl.1 hf.hcl.2
 have bd2':l'.length≤maxLen:=Nat.le_trans hf'.hcl.1 hf'.hcl.2
 have bd3:bs.length≤maxLen:=Nat.le_trans hf.hca.1 hf.hca.2
 have bd3':bs'.length≤maxLen:=Nat.le_trans hf'.hca.1 hf'.hca.2
 have hPl:=parts_of hl
 have hPl':=parts_of hl'
 have hPa:=arms_of ha
 have hPa':=arms_of ha'
 obtain ⟨S,hS⟩:∃ S,S=strB s:=⟨_,rfl⟩
 obtain ⟨T,hT⟩:∃ S,S=strB t:=⟨_,rfl⟩
 obtain ⟨nn,hnn⟩:∃ q,q=ns.length:=⟨_,rfl⟩
 obtain ⟨nl,hnl⟩:∃ q,q=l.length:=⟨_,rfl⟩
 obtain ⟨nb,hnb⟩:∃ q,q=bs.length:=⟨_,rfl⟩
 obtain ⟨S',hS'⟩:∃ S,S=strB s':=⟨_,rfl⟩
 obtain ⟨T',hT'⟩:∃ S,S=strB t':=⟨_,rfl⟩
 obtain ⟨nn',hnn'⟩:∃ q,q=ns'.length:=⟨_,rfl⟩
 obtain ⟨nl',hnl'⟩:∃ q,q=l'.length:=⟨_,rfl⟩
 obtain ⟨nb',hnb'⟩:∃ q,q=bs'.length:=⟨_,rfl⟩
 have HNm:Hid (∀ w',Below w.heap.size w w'→Calls Tryz.prog 21 #[.slice An nn cn,.slice Bn nn' dn] w' fun e w2=>e=.returned (.bool (decide (ns=ns')))∧Below w'.heap.size w' w2):=Lib.hid (fun w' hb=>by
  rw [hnn,hnn']
  exact (sameNames_any _ _ An Bn cn dn ns ns' w' (hn.keep (Same.of_below hb)) (hn'.keep (Same.of_below hb)) ⟨bd1,bd1'⟩).mono fun e w2 h=>⟨h.1,h.2.below⟩)
 obtain ⟨R,hR⟩:∃ R,R=sameE (.mk k n s t ns l ops bs) (.mk k' n' s' t' ns' l' ops' bs'):=⟨_,rfl⟩
 show Calls Tryz.prog 9 #[.agg #[.int .i64 k,.int .i64 n,.string (strB s),.string (strB t),.slice An ns.length cn,.slice Al l.length cl,.slice Aa bs.length ca],.agg #[.int .i64 k',.int .i64 n',.string (strB s'),.string (strB t'),.slice Bn ns'.length dn,.slice Bl l'.length dl,.slice Ba bs'.length da]] w fun r w'=>r=.returned (.bool (sameE (.mk k n s t ns l ops bs) (.mk k' n' s' t' ns' l' ops' bs')))∧Below w.heap.size w w'
 rw [← hR,← hS,← hS',← hT,← hT',← hnn,← hnn',← hnl,← hnl',← hnb,← hnb']
 rw [← hR] at hE
 have hnlb:(nl:Int)≤9223372036854775807:=by rw [hnl];unfold maxLen at bd2;omega
 have hnbb:(nb:Int)≤9223372036854775807:=by rw [hnb];unfold maxLen at bd3;omega
 have HB2:Hid (Below w.heap.size w ((w.alloc (.cells #[.int .i64 k,.int .i64 n,.string S,.string T,.slice An nn cn,.slice Al nl cl,.slice Aa nb ca] 27)).alloc (.cells #[.int .i64 k',.int .i64 n',.string S',.string T',.slice Bn nn' dn,.slice Bl nl' dl,.slice Ba nb' da] 27))):=Lib.hid (((Below.refl _ _).alloc (Nat.le_refl _) _).alloc (by simp) _)
 obtain ⟨W2,hW2⟩:∃ W,(w.alloc (.cells #[.int .i64 k,.int .i64 n,.string S,.string T,.slice An nn cn,.slice Al nl cl,.slice Aa nb ca] 27)).alloc (.cells #[.int .i64 k',.int .i64 n',.string S',.string T',.slice Bn nn' dn,.slice Bl nl' dl,.slice Ba nb' da] 27)=W:=⟨_,rfl⟩
 have HEa:Hid (EB W2 w.heap.size (.int .i64 k) (.int .i64 n) (.string S) (.string T) (.slice An nn cn) (.slice Al nl cl) (.slice Aa nb ca)):=Lib.hid (by rw [← hW2];exact (EB.new w _ _ _ _ _ _ _).kept (World.grownBy_alloc _ _ none) (by simp))
 have HEb:Hid (EB W2 (w.heap.size+1) (.int .i64 k') (.int .i64 n') (.string S') (.string T') (.slice Bn nn' dn) (.slice Bl nl' dl) (.slice Ba nb' da)):=Lib.hid (by rw [← hW2];have:=EB.new (w.alloc (.cells #[.int .i64 k,.int .i64 n,.string S,.string T,.slice An nn cn,.slice Al nl cl,.slice Aa nb ca] 27)) (.int .i64 k') (.int .i64 n') (.string S') (.string T') (.slice Bn nn' dn) (.slice Bl nl' dl) (.slice Ba nb' da);rwa [World.size_alloc] at this)
 rw [hW2] at HB2
 have a0:=HEa.out.c0
 have b0:=HEb.out.c0
 have a1:=HEa.out.c1
 have b1:=HEb.out.c1
 have a2:=HEa.out.c2
 have b2:=HEb.out.c2
 have a3:=HEa.out.c3
 have b3:=HEb.out.c3
 have a4:=HEa.out.c4
 have b4:=HEb.out.c4
 have a5:=HEa.out.c5
 have b5:=HEb.out.c5
 have a6:=HEa.out.c6
 have b6:=HEb.out.c6
 clear bd1 bd1' bd2 bd2' bd3 bd3' hf hf' hn hn' hl hl' ha ha' h1 h2
 by_cases ek:k=k'
 case neg =>
  have HR:Hid (R=false):=Lib.hid (by rw [hE,show hdE _ _=false from by simp [hdE,Ex.k,Ex.n,Ex.s,Ex.t,Ex.ns,ek]];rfl)
  have f1:(k != k')=true:=by simpa using ek
  clear hS hS' hT hT' hnn hnn' hnl hnl' hnb hnb' hR hE hPl hPl' hPa hPa' ih ho ho' ek
  go_enter Tryz.func9,Tryz.ntmps9
  go_wp2_with fail
  go_ret
  exact ⟨by rw [HR.out];rfl,HB2.out⟩
 subst ek
 by_cases en:n=n'
 case neg =>
  have HR:Hid (R=false):=Lib.hid (by rw [hE,show hdE _ _=false from by simp [hdE,Ex.k,Ex.n,Ex.s,Ex.t,Ex.ns,en]];rfl)
  have f1:(n != n')=true:=by simpa using en
  clear hS hS' hT hT' hnn hnn' hnl hnl' hnb hnb' hR hE hPl hPl' hPa hPa' ih ho ho' en
  go_enter Tryz.func9,Tryz.ntmps9
  go_wp2_with fail
  go_ret
  exact ⟨by rw [HR.out];rfl,HB2.out⟩
 subst en
 by_cases es:s=s'
 case neg =>
  have HR:Hid (R=false):=Lib.hid (by rw [hE,show hdE _ _=false from by simp [hdE,Ex.k,Ex.n,Ex.s,Ex.t,Ex.ns,es]];rfl)
  have f0:(S.toList == S'.toList)=false:=by rw [hS,hS',ByteArray.toList_eq,ByteArray.toList_eq,data_strB,data_strB];exact beq_eq_false_iff_ne.2 es
  have f1:(S.toList != S'.toList)=true:=by simp only [bne,f0];rfl
  clear hS hS' hT hT' hnn hnn' hnl hnl' hnb hnb' hR hE hPl hPl' hPa hPa' ih ho ho' es
  go_enter Tryz.func9,Tryz.ntmps9
  go_wp2_with fail
  go_ret
  exact ⟨by rw [HR.out];rfl,HB2.out⟩
 subst es
 obtain rfl:S'=S:=by rw [hS,hS']
 by_cases et:t=t'
 case neg =>
  have HR:Hid (R=false):=Lib.hid (by rw [hE,show hdE _ _=false from by simp [hdE,Ex.k,Ex.n,Ex.s,Ex.t,Ex.ns,et]];rfl)
  have f0:(T.toList == T'.toList)=false:=by rw [hT,hT',ByteArray.toList_eq,ByteArray.toList_eq,data_strB,data_strB];exact beq_eq_false_iff_ne.2 et
  have f1:(T.toList != T'.toList)=true:=by simp only [bne,f0];rfl
  clear hS hS' hT hT' hnn hnn' hnl hnl' hnb hnb' hR hE hPl hPl' hPa hPa' ih ho ho' et
  go_enter Tryz.func9,Tryz.ntmps9
  go_wp2_with fail
  go_ret
  exact ⟨by rw [HR.out];rfl,HB2.out⟩
 subst et
 obtain rfl:T'=T:=by rw [hT,hT']
 by_cases ens:ns=ns'
 case neg =>
  have HR:Hid (R=false):=Lib.hid (by rw [hE,show hdE _ _=false from by simp [hdE,Ex.k,Ex.n,Ex.s,Ex.t,Ex.ns,ens]];rfl)
  rw [show decide (ns=ns')=false from decide_eq_false ens] at HNm
  clear hS hS' hT hT' hnn hnn' hnl hnl' hnb hnb' hR hE hPl hPl' hPa hPa' ih ho ho' ens
  go_enter Tryz.func9,Tryz.ntmps9
  go_wp2_with fail
  clear hW2
  refine (HNm.out _ HB2.out).mono ?_
  rintro r w3 ⟨rfl,hb⟩
  have HB3:=Lib.hid (HB2.out.trans (hb.mono HB2.out.size))
  have HEa3:=Lib.hid (HEa.out.kept (grown_below hb none) (by simp))
  have HEb3:=Lib.hid (HEb.out.kept (grown_below hb none) (by simp))
  clear hb a0 a1 a2 a3 a4 a5 a6 b0 b1 b2 b3 b4 b5 b6
  have a5:=HEa3.out.c5
  have b5:=HEb3.out.c5
  have a6:=HEa3.out.c6
  have b6:=HEb3.out.c6
  go_wp2_with fail
  go_ret
  exact ⟨by rw [HR.out];rfl,HB3.out⟩
 rw [show decide (ns=ns')=true from decide_eq_true ens] at HNm
 by_cases enl:nl=nl'
 case neg =>
  have HR:Hid (R=false):=Lib.hid (by
   rw [hE]
   have h0:sameL l l'=false:=by
    cases hq:sameL l l' with
    | false=>rfl
    | true=>exact absurd (by rw [hnl,hnl'];exact sameL_len hq) enl
   show (_ && (sameL l l' && _))=false
   rw [h0];simp)
  have f1:((nl:Int) != (nl':Int))=true:=by simp;omega
  have f2:((nl:Int) == (nl':Int))=false:=by simp;omega
  clear hS hS' hT hT' hnn hnn' hnl hnl' hnb hnb' hR hE hPl hPl' hPa hPa' ih ho ho' ens enl
  go_enter Tryz.func9,Tryz.ntmps9
  go_wp2_with fail
  clear hW2
  refine (HNm.out _ HB2.out).mono ?_
  rintro r w3 ⟨rfl,hb⟩
  have HB3:=Lib.hid (HB2.out.trans (hb.mono HB2.out.size))
  have HEa3:=Lib.hid (HEa.out.kept (grown_below hb none) (by simp))
  have HEb3:=Lib.hid (HEb.out.kept (grown_below hb none) (by simp))
  clear hb a0 a1 a2 a3 a4 a5 a6 b0 b1 b2 b3 b4 b5 b6
  have a5:=HEa3.out.c5
  have b5:=HEb3.out.c5
  have a6:=HEa3.out.c6
  have b6:=HEb3.out.c6
  go_wp2_with fail
  go_ret
  exact ⟨by rw [HR.out];rfl,HB3.out⟩
 subst enl
 by_cases enb:nb=nb'
 case neg =>
  have HR:Hid (R=false):=Lib.hid (by
   rw [hE]
   have h0:sameA ops bs ops' bs'=false:=by
    cases hq:sameA ops bs ops' bs' with
    | false=>rfl
    | true=>exact absurd (by rw [hnb,hnb'];exact sameA_len hq) enb
   show (_ && (_ && sameA ops bs ops' bs'))=false
   rw [h0];simp)
  have f1:((nb:Int) != (nb':Int))=true:=by simp;omega
  have f2:((nb:Int) == (nb':Int))=false:=by simp;omega
  clear hS hS' hT hT' hnn hnn' hnl hnl' hnb hnb' hR hE hPl hPl' hPa hPa' ih ho ho' ens enb
  go_enter Tryz.func9,Tryz.ntmps9
  go_wp2_with fail
  clear hW2
  refine (HNm.out _ HB2.out).mono ?_
  rintro r w3 ⟨rfl,hb⟩
  have HB3:=Lib.hid (HB2.out.trans (hb.mono HB2.out.size))
  have HEa3:=Lib.hid (HEa.out.kept (grown_below hb none) (by simp))
  have HEb3:=Lib.hid (HEb.out.kept (grown_below hb none) (by simp))
  clear hb a0 a1 a2 a3 a4 a5 a6 b0 b1 b2 b3 b4 b5 b6
  have a5:=HEa3.out.c5
  have b5:=HEb3.out.c5
  have a6:=HEa3.out.c6
  have b6:=HEb3.out.c6
  go_wp2_with fail
  go_ret
  exact ⟨by rw [HR.out];rfl,HB3.out⟩
 subst enb
 have HRt:Hid (R=(sameL l l' && sameA ops bs ops' bs')):=Lib.hid (by rw [hE,show hdE _ _=true from by simp [hdE,Ex.k,Ex.n,Ex.s,Ex.t,Ex.ns,ens]];rfl)
 have HNl:=Lib.hid hnl
 have HNl':=Lib.hid hnl'
 have HNb:=Lib.hid hnb
 have HNb':=Lib.hid hnb'
 have HPl:=Lib.hid hPl
 have HPl':=Lib.hid hPl'
 have HPa:=Lib.hid hPa
 have HPa':=Lib.hid hPa'
 have HIH:=Lib.hid ih
 have HOl:=Lib.hid ho
 have HOl':=Lib.hid ho'
 clear hS hS' hT hT' hnn hnn' hnl hnl' hnb hnb' hR hE hPl hPl' hPa hPa' ih ho ho' ens
 go_enter Tryz.func9,Tryz.ntmps9
 go_wp2_with fail
 clear hW2
 refine (HNm.out _ HB2.out).mono ?_
 rintro r w3 ⟨rfl,hb⟩
 have HB3:=Lib.hid (HB2.out.trans (hb.mono HB2.out.size))
 have HEa3:=Lib.hid (HEa.out.kept (grown_below hb none) (by simp))
 have HEb3:=Lib.hid (HEb.out.kept (grown_below hb none) (by simp))
 clear hb a0 a1 a2 a3 a4 a5 a6 b0 b1 b2 b3 b4 b5 b6
 have a5:=HEa3.out.c5
 have b5:=HEb3.out.c5
 have a6:=HEa3.out.c6
 have b6:=HEb3.out.c6
 have hzw:w.heap.size+1 < w3.heap.size:=HEb3.out.lt
 go_wp2_with fail
 go_loopw [5] (fun i wr=>∃ kk:Nat,kk≤nl∧i=.int .i64 (kk:Int)∧Hid (Below w3.heap.size w3 wr)∧Hid (sameL (l.take kk) (l'.take kk)=true)) (fun i _=>nl - (intOf i).toNat)
 case atStart=>exact ⟨0,Nat.zero_le _,rfl,Lib.hid (Below.refl _ _),Lib.hid rfl⟩
 case round =>
  obtain ⟨kk,hkk,rfl,hB,hSm⟩:=hrel
  clear a5 b5 a6 b6
  have HB0:=Lib.hid (HB3.out.trans (hB.out.mono HB3.out.size))
  have hzr:w.heap.size+1 < wr.heap.size:=Nat.lt_of_lt_of_le hzw hB.out.size
  have HEar:=Lib.hid (HEa3.out.kept (grown_below hB.out none) (by simp))
  have HEbr:=Lib.hid (HEb3.out.kept (grown_below hB.out none) (by simp))
  have hs0:PtS wr wr:=Below.refl _ _
  have a5:=HEar.out.c5
  have b5:=HEbr.out.c5
  have j0:(0:Int)≤(kk:Int):=by omega
  by_cases hkl:kk < nl
  case pos =>
   have hk1:kk < l.length:=by rw [← HNl.out];exact hkl
   have hk2:kk < l'.length:=by rw [← HNl'.out];exact hkl
   have j1:(kk:Int) < (nl:Int):=by omega
   obtain ⟨x,hx⟩:∃ x,x=l[kk]:=⟨_,rfl⟩
   obtain ⟨y,hy⟩:∃ x,x=l'[kk]:=⟨_,rfl⟩
   have hxl:l[kk]?=some x:=by rw [hx];exact List.getElem?_eq_getElem hk1
   have hyl:l'[kk]?=some y:=by rw [hy];exact List.getElem?_eq_getElem hk2
   have hx7:=HPl.out
   have hy7:=HPl'.out
   obtain ⟨b,off,rfl⟩:=HPl.out.addr (by omega)
   obtain ⟨b',off',rfl⟩:=HPl'.out.addr (by omega)
   obtain ⟨⟨hbx,_⟩,k1,m1,s1,t1,X0,p0,c0,X1,p1,c1,X2,p2,c2,hcx⟩:=HPl.out.at hxl
   obtain ⟨⟨hby,_⟩,k2,m2,s2,t2,Y0,q0,d0,Y1,q1,d1,Y2,q2,d2,hcy⟩:=HPl'.out.at hyl
   obtain ⟨f0,f1,f2,f3,f4,f5,f6⟩:=hcx.up hbx HB0.out
   obtain ⟨g0,g1,g2,g3,g4,g5,g6⟩:=hcy.up hby HB0.out
   have hbx2:b < wr.heap.size:=Nat.lt_of_lt_of_le hbx HB0.out.size
   have hby2:b' < wr.heap.size:=Nat.lt_of_lt_of_le hby HB0.out.size
   obtain ⟨V,hV⟩:∃ V,V=sameE x y:=⟨_,rfl⟩
   have HS:Hid (∀ w',PtS wr w'→Calls Tryz.prog 9 #[.agg #[.int .i64 k1,.int .i64 m1,.string s1,.string t1,.slice X0 p0 c0,.slice X1 p1 c1,.slice X2 p2 c2],.agg #[.int .i64 k2,.int .i64 m2,.string s2,.string t2,.slice Y0 q0 d0,.slice Y1 q1 d1,.slice Y2 q2 d2]] w' fun r w2=>r=.returned (.bool V)∧Below w'.heap.size w' w2):=Lib.hid (fun w' hp=>by
    have hb:Below w.heap.size w w':=HB0.out.trans (Below.mono (show Below wr.heap.size wr w' from hp) HB0.out.size)
    rw [hV]
    exact HIH.out x (List.mem_append_left _ (List.mem_of_getElem? hxl)) y _ _ w' ((hcx.rep.weaken (Q:=fun _=>True) (fun _ _=>trivial)).keep (Same.of_below hb)) ((hcy.rep.weaken (Q:=fun _=>True) (fun _ _=>trivial)).keep (Same.of_below hb)))
   have HV:=Lib.hid hV
   have HX:=Lib.hid hxl
   have HY:=Lib.hid hyl
   have HTk:Hid (sameL (l.take (kk+1)) (l'.take (kk+1))=(sameL (l.take kk) (l'.take kk) && V)):=Lib.hid (by rw [take_succ_of hk1,take_succ_of hk2,← hx,← hy,sameL_snoc x y (by rw [List.length_take,List.length_take];omega),hV])
   clear hx hy hxl hyl hx7 hy7 hcx hcy hV hbx hby
   have HAll:=Lib.hid (fun w' (h:PtS wr w')=>And.intro (PtS.keep h (by omega) HEar.out.c5) (And.intro (PtS.keep h hzr HEbr.out.c5) (And.intro (PtS.keep h hbx2 f0) (And.intro (PtS.keep h hbx2 f1) (And.intro (PtS.keep h hbx2 f2) (And.intro (PtS.keep h hbx2 f3) (And.intro (PtS.keep h hbx2 f4) (And.intro (PtS.keep h hbx2 f5) (And.intro (PtS.keep h hbx2 f6) (And.intro (PtS.keep h hby2 g0) (And.intro (PtS.keep h hby2 g1) (And.intro (PtS.keep h hby2 g2) (And.intro (PtS.keep h hby2 g3) (And.intro (PtS.keep h hby2 g4) (And.intro (PtS.keep h hby2 g5) (And.intro (PtS.keep h hby2 g6) h))))))))))))))))
   clear f0 f1 f2 f3 f4 f5 f6 g0 g1 g2 g3 g4 g5 g6 HEar HEbr
   cases V with
   | false =>
    have HRf:Hid (R=false):=Lib.hid (by rw [HRt.out,sameL_part kk x y HX.out HY.out HV.out.symm];rfl)
    go_wp2_with fail
    clear a5 b5
    go_region_held3 (fun w'=>w'.cell? ⟨w.heap.size,5,none⟩=some (.slice (some ⟨b,off,none⟩) nl cl)∧w'.cell? ⟨w.heap.size+1,5,none⟩=some (.slice (some ⟨b',off',none⟩) nl dl)∧w'.cell? ⟨b,off+kk*7,none⟩=some (.int .i64 k1)∧w'.cell? ⟨b,off+kk*7+1,none⟩=some (.int .i64 m1)∧w'.cell? ⟨b,off+kk*7+2,none⟩=some (.string s1)∧w'.cell? ⟨b,off+kk*7+3,none⟩=some (.string t1)∧w'.cell? ⟨b,off+kk*7+4,none⟩=some (.slice X0 p0 c0)∧w'.cell? ⟨b,off+kk*7+5,none⟩=some (.slice X1 p1 c1)∧w'.cell? ⟨b,off+kk*7+6,none⟩=some (.slice X2 p2 c2)∧w'.cell? ⟨b',off'+kk*7,none⟩=some (.int .i64 k2)∧w'.cell? ⟨b',off'+kk*7+1,none⟩=some (.int .i64 m2)∧w'.cell? ⟨b',off'+kk*7+2,none⟩=some (.string s2)∧w'.cell? ⟨b',off'+kk*7+3,none⟩=some (.string t2)∧w'.cell? ⟨b',off'+kk*7+4,none⟩=some (.slice Y0 q0 d0)∧w'.cell? ⟨b',off'+kk*7+5,none⟩=some (.slice Y1 q1 d1)∧w'.cell? ⟨b',off'+kk*7+6,none⟩=some (.slice Y2 q2 d2)∧PtS wr w')
     ((refine HAll.out _ ?_;first | assumption | exact hs0.drew | exact .below ‹_› hs0.drew | exact .below ‹_› (.below ‹_› hs0.drew)))
     (first | (go_at_call 9;(with_reducible refine (HS.out _ (by first | assumption | exact hs0.drew | exact .below ‹_› hs0.drew | exact .below ‹_› (.below ‹_› hs0.drew))).mono ?_);rintro e w' ⟨rfl,hb⟩))
    rename_i hh
    have HBn:=Lib.hid (hB.out.trans (Below.mono (show Below wr.heap.size wr _ from hh.2.2.2.2.2.2.2.2.2.2.2.2.2.2.2.2) hB.out.size))
    clear hh HAll hs0
    go_wp2_with fail
    go_ret
    exact ⟨by rw [HRf.out];rfl,HB3.out.trans (HBn.out.mono HB3.out.size)⟩
   | true =>
    go_wp2_with fail
    clear a5 b5
    go_region_held3 (fun w'=>w'.cell? ⟨w.heap.size,5,none⟩=some (.slice (some ⟨b,off,none⟩) nl cl)∧w'.cell? ⟨w.heap.size+1,5,none⟩=some (.slice (some ⟨b',off',none⟩) nl dl)∧w'.cell? ⟨b,off+kk*7,none⟩=some (.int .i64 k1)∧w'.cell? ⟨b,off+kk*7+1,none⟩=some (.int .i64 m1)∧w'.cell? ⟨b,off+kk*7+2,none⟩=some (.string s1)∧w'.cell? ⟨b,off+kk*7+3,none⟩=some (.string t1)∧w'.cell? ⟨b,off+kk*7+4,none⟩=some (.slice X0 p0 c0)∧w'.cell? ⟨b,off+kk*7+5,none⟩=some (.slice X1 p1 c1)∧w'.cell? ⟨b,off+kk*7+6,none⟩=some (.slice X2 p2 c2)∧w'.cell? ⟨b',off'+kk*7,none⟩=some (.int .i64 k2)∧w'.cell? ⟨b',off'+kk*7+1,none⟩=some (.int .i64 m2)∧w'.cell? ⟨b',off'+kk*7+2,none⟩=some (.string s2)∧w'.cell? ⟨b',off'+kk*7+3,none⟩=some (.string t2)∧w'.cell? ⟨b',off'+kk*7+4,none⟩=some (.slice Y0 q0 d0)∧w'.cell? ⟨b',off'+kk*7+5,none⟩=some (.slice Y1 q1 d1)∧w'.cell? ⟨b',off'+kk*7+6,none⟩=some (.slice Y2 q2 d2)∧PtS wr w')
     ((refine HAll.out _ ?_;first | assumption | exact hs0.drew | exact .below ‹_› hs0.drew | exact .below ‹_› (.below ‹_› hs0.drew)))
     (first | (go_at_call 9;(with_reducible refine (HS.out _ (by first | assumption | exact hs0.drew | exact .below ‹_› hs0.drew | exact .below ‹_› (.below ‹_› hs0.drew))).mono ?_);rintro e w' ⟨rfl,hb⟩))
    rename_i hh
    have HBn:=Lib.hid (hB.out.trans (Below.mono (show Below wr.heap.size wr _ from hh.2.2.2.2.2.2.2.2.2.2.2.2.2.2.2.2) hB.out.size))
    clear hh HAll hs0
    go_wp2_with fail
    go_roundw
    case rel=>exact ⟨kk+1,by omega,by go_num,HBn,Lib.hid (by rw [HTk.out,hSm.out];rfl)⟩
    case measure=>simp [intOf];omega
  case neg =>
   obtain rfl:kk=nl:=by omega
   have HSl:Hid (sameL l l'=true):=Lib.hid (by have h:=hSm.out;rwa [List.take_of_length_le (by rw [← HNl.out];exact Nat.le_refl _),List.take_of_length_le (by rw [← HNl'.out];exact Nat.le_refl _)] at h)
   obtain ⟨w4,hw4⟩:∃ q,q=wr:=⟨_,rfl⟩
   subst hw4
   have hBq:=hB
   clear hs0 hSm
   go_wp2_with fail
   go_loopw [6] (fun i wr=>∃ kk:Nat,kk≤nb∧i=.int .i64 (kk:Int)∧Hid (Below w3.heap.size w3 wr)∧Hid (sameA (ops.take kk) (bs.take kk) (ops'.take kk) (bs'.take kk)=true)) (fun i _=>nb - (intOf i).toNat)
   case atStart=>exact ⟨0,Nat.zero_le _,rfl,hBq,Lib.hid rfl⟩
   case round =>
    clear hB
    obtain ⟨kk,hkk,rfl,hB,hSm⟩:=hrel
    have HB0:=Lib.hid (HB3.out.trans (hB.out.mono HB3.out.size))
    have hzr:w.heap.size+1 < wr.heap.size:=Nat.lt_of_lt_of_le hzw hB.out.size
    have HEar:=Lib.hid (HEa3.out.kept (grown_below hB.out none) (by simp))
    have HEbr:=Lib.hid (HEb3.out.kept (grown_below hB.out none) (by simp))
    have hs0:PtS wr wr:=Below.refl _ _
    have a6:=HEar.out.c6
    have b6:=HEbr.out.c6
    have j0:(0:Int)≤(kk:Int):=by omega
    by_cases hkl:kk < nb
    case pos =>
     have hk1:kk < bs.length:=by rw [← HNb.out];exact hkl
     have hk2:kk < bs'.length:=by rw [← HNb'.out];exact hkl
     have ho1:kk < ops.length:=by rw [HOl.out];exact hk1
     have ho2:kk < ops'.length:=by rw [HOl'.out];exact hk2
     have j1:(kk:Int) < (nb:Int):=by omega
     obtain ⟨x,hx⟩:∃ x,x=bs[kk]:=⟨_,rfl⟩
     obtain ⟨y,hy⟩:∃ x,x=bs'[kk]:=⟨_,rfl⟩
     obtain ⟨u,hu⟩:∃ x,x=ops[kk]:=⟨_,rfl⟩
     obtain ⟨v,hv⟩:∃ x,x=ops'[kk]:=⟨_,rfl⟩
     have hxl:bs[kk]?=some x:=by rw [hx];exact List.getElem?_eq_getElem hk1
     have hyl:bs'[kk]?=some y:=by rw [hy];exact List.getElem?_eq_getElem hk2
     have hul:ops[kk]?=some u:=by rw [hu];exact List.getElem?_eq_getElem ho1
     have hvl:ops'[kk]?=some v:=by rw [hv];exact List.getElem?_eq_getElem ho2
     obtain ⟨b,off,rfl,_,hbx,hcc⟩:=HPa.out (List.ne_nil_of_mem (List.mem_of_getElem? hxl))
     obtain ⟨b',off',rfl,_,hby,hcc'⟩:=HPa'.out (List.ne_nil_of_mem (List.mem_of_getElem? hyl))
     obtain ⟨Xn,xc,k1,m1,s1,t1,X0,p0,c0,X1,p1,c1,X2,p2,c2,hcx⟩:=hcc kk u x hul hxl
     obtain ⟨Yn,yc,k2,m2,s2,t2,Y0,q0,d0,Y1,q1,d1,Y2,q2,d2,hcy⟩:=hcc' kk v y hvl hyl
     obtain ⟨f0,f1,f2,f3,f4,f5,f6,f7,f8⟩:=hcx.up hbx HB0.out
     obtain ⟨g0,g1,g2,g3,g4,g5,g6,g7,g8⟩:=hcy.up hby HB0.out
     have hbx2:b < wr.heap.size:=Nat.lt_of_lt_of_le hbx HB0.out.size
     have hby2:b' < wr.heap.size:=Nat.lt_of_lt_of_le hby HB0.out.size
     obtain ⟨OP,hOP⟩:∃ X,X=strB u.1:=⟨_,rfl⟩
     obtain ⟨OQ,hOQ⟩:∃ X,X=strB v.1:=⟨_,rfl⟩
     rw [← hOP] at f0
     rw [← hOQ] at g0
     obtain ⟨on1,hon1⟩:∃ q,q=u.2.length:=⟨_,rfl⟩
     obtain ⟨on2,hon2⟩:∃ q,q=v.2.length:=⟨_,rfl⟩
     rw [← hon1] at f1
     rw [← hon2] at g1
     have HNq:Hid (∀ w',Qt wr w'→Calls Tryz.prog 21 #[.slice Xn on1 xc,.slice Yn on2 yc] w' fun e w2=>e=.returned (.bool (decide (u.2=v.2)))∧Qt w' w2):=Lib.hid (fun w' hq=>by
      have hb:Below w.heap.size w w':=HB0.out.trans (hq.below.mono HB0.out.size)
      rw [hon1,hon2]
      exact sameNames_any _ _ Xn Yn xc yc u.2 v.2 w' (hcx.names.keep (Same.of_below hb)) (hcy.names.keep (Same.of_below hb)) ⟨Nat.le_trans hcx.len.1 hcx.len.2,Nat.le_trans hcy.len.1 hcy.len.2⟩)
     have HNp:Hid (∀ w',PtS wr w'→Calls Tryz.prog 21 #[.slice Xn on1 xc,.slice Yn on2 yc] w' fun e w2=>e=.returned (.bool (decide (u.2=v.2)))∧Below w'.heap.size w' w2):=Lib.hid (fun w' hp=>by
      have hb:Below w.heap.size w w':=HB0.out.trans (Below.mono (show Below wr.heap.size wr w' from hp) HB0.out.size)
      rw [hon1,hon2]
      exact (sameNames_any _ _ Xn Yn xc yc u.2 v.2 w' (hcx.names.keep (Same.of_below hb)) (hcy.names.keep (Same.of_below hb)) ⟨Nat.le_trans hcx.len.1 hcx.len.2,Nat.le_trans hcy.len.1 hcy.len.2⟩).mono fun e w2 h=>⟨h.1,h.2.below⟩)
     obtain ⟨V,hV⟩:∃ V,V=sameE x y:=⟨_,rfl⟩
     have HS:Hid (∀ w',PtS wr w'→Calls Tryz.prog 9 #[.agg #[.int .i64 k1,.int .i64 m1,.string s1,.string t1,.slice X0 p0 c0,.slice X1 p1 c1,.slice X2 p2 c2],.agg #[.int .i64 k2,.int .i64 m2,.string s2,.string t2,.slice Y0 q0 d0,.slice Y1 q1 d1,.slice Y2 q2 d2]] w' fun r w2=>r=.returned (.bool V)∧Below w'.heap.size w' w2):=Lib.hid (fun w' hp=>by
      have hb:Below w.heap.size w w':=HB0.out.trans (Below.mono (show Below wr.heap.size wr w' from hp) HB0.out.size)
      rw [hV]
      exact HIH.out x (List.mem_append_right _ (List.mem_of_getElem? hxl)) y _ _ w' ((hcx.rep.weaken (Q:=fun _=>True) (fun _ _=>trivial)).keep (Same.of_below hb)) ((hcy.rep.weaken (Q:=fun _=>True) (fun _ _=>trivial)).keep (Same.of_below hb)))
     have HPart:Hid ((decide (u=v) && V)=false→R=false):=Lib.hid (fun h=>by rw [HRt.out,sameA_part kk u v x y hul hvl hxl hyl (by rw [← hV];exact h),Bool.and_false])
     have HTk:Hid (sameA (ops.take (kk+1)) (bs.take (kk+1)) (ops'.take (kk+1)) (bs'.take (kk+1))=(sameA (ops.take kk) (bs.take kk) (ops'.take kk) (bs'.take kk) && (decide (u=v) && V))):=Lib.hid (by rw [take_succ_of hk1,take_succ_of hk2,take_succ_of ho1,take_succ_of ho2,← hx,← hy,← hu,← hv,sameA_snoc u v x y (by rw [List.length_take,List.length_take];omega) (by rw [List.length_take,List.length_take];omega) (by rw [List.length_take,List.length_take];omega),hV])
     clear hx hy hu hv hxl hyl hul hvl hcc hcc' hcx hcy hV hbx hby
     by_cases e1:u.1=v.1
     case neg =>
      have HRf:Hid (R=false):=Lib.hid (HPart.out (by rw [decide_eq_false (fun h=>e1 (by rw [h]))];rfl))
      have f9:(OP.toList == OQ.toList)=false:=by rw [hOP,hOQ,ByteArray.toList_eq,ByteArray.toList_eq,data_strB,data_strB];exact beq_eq_false_iff_ne.2 e1
      have g9:(OP.toList != OQ.toList)=true:=by simp only [bne,f9];rfl
      clear e1 hOP hOQ hon1 hon2 hs0
      go_wp2_with fail
      go_quiet (fail)
      go_wp2_with fail
      go_ret
      exact ⟨by rw [HRf.out];rfl,HB3.out.trans ((hB.out.trans ((Qt.below ⟨nq,rfl⟩).mono hB.out.size)).mono HB3.out.size)⟩
     obtain rfl:OQ=OP:=by rw [hOP,hOQ,e1]
     by_cases e2:u.2=v.2
     case neg =>
      have HRf:Hid (R=false):=Lib.hid (HPart.out (by rw [decide_eq_false (fun h=>e2 (by rw [h]))];rfl))
      rw [show decide (u.2=v.2)=false from decide_eq_false e2] at HNq
      clear e1 e2 hOP hOQ hon1 hon2 hs0 HNp
      go_wp2_with fail
      go_quiet ((go_at_call 21;exact Calls.quiet_of (HNq.out _ ⟨_,rfl⟩)))
      go_wp2_with fail
      go_ret
      exact ⟨by rw [HRf.out];rfl,HB3.out.trans ((hB.out.trans ((Qt.below ⟨nq,rfl⟩).mono hB.out.size)).mono HB3.out.size)⟩
     have HD:Hid (decide (u=v)=true):=Lib.hid (decide_eq_true (Prod.ext e1 e2))
     rw [show decide (u.2=v.2)=true from decide_eq_true e2] at HNp
     have HAll:=Lib.hid (fun w' (h:PtS wr w')=>And.intro (PtS.keep h (by omega) HEar.out.c6) (And.intro (PtS.keep h hzr HEbr.out.c6) (And.intro (PtS.keep h hbx2 f0) (And.intro (PtS.keep h hbx2 f1) (And.intro (PtS.keep h hbx2 f2) (And.intro (PtS.keep h hbx2 f3) (And.intro (PtS.keep h hbx2 f4) (And.intro (PtS.keep h hbx2 f5) (And.intro (PtS.keep h hbx2 f6) (And.intro (PtS.keep h hbx2 f7) (And.intro (PtS.keep h hbx2 f8) (And.intro (PtS.keep h hby2 g0) (And.intro (PtS.keep h hby2 g1) (And.intro (PtS.keep h hby2 g2) (And.intro (PtS.keep h hby2 g3) (And.intro (PtS.keep h hby2 g4) (And.intro (PtS.keep h hby2 g5) (And.intro (PtS.keep h hby2 g6) (And.intro (PtS.keep h hby2 g7) (And.intro (PtS.keep h hby2 g8) h))))))))))))))))))))
     clear f0 f1 f2 f3 f4 f5 f6 f7 f8 g0 g1 g2 g3 g4 g5 g6 g7 g8 HEar HEbr e1 e2 hOP hOQ hon1 hon2 HNq
     cases V with
     | false =>
      have HRf:Hid (R=false):=Lib.hid (HPart.out (by rw [HD.out];rfl))
      go_wp2_with fail
      clear a6 b6
      go_region_held3 (fun w'=>w'.cell? ⟨w.heap.size,6,none⟩=some (.slice (some ⟨b,off,none⟩) nb ca)∧w'.cell? ⟨w.heap.size+1,6,none⟩=some (.slice (some ⟨b',off',none⟩) nb da)∧w'.cell? ⟨b,off+kk*9,none⟩=some (.string OQ)∧w'.cell? ⟨b,off+kk*9+1,none⟩=some (.slice Xn on1 xc)∧w'.cell? ⟨b,off+kk*9+2,none⟩=some (.int .i64 k1)∧w'.cell? ⟨b,off+kk*9+3,none⟩=some (.int .i64 m1)∧w'.cell? ⟨b,off+kk*9+4,none⟩=some (.string s1)∧w'.cell? ⟨b,off+kk*9+5,none⟩=some (.string t1)∧w'.cell? ⟨b,off+kk*9+6,none⟩=some (.slice X0 p0 c0)∧w'.cell? ⟨b,off+kk*9+7,none⟩=some (.slice X1 p1 c1)∧w'.cell? ⟨b,off+kk*9+8,none⟩=some (.slice X2 p2 c2)∧w'.cell? ⟨b',off'+kk*9,none⟩=some (.string OQ)∧w'.cell? ⟨b',off'+kk*9+1,none⟩=some (.slice Yn on2 yc)∧w'.cell? ⟨b',off'+kk*9+2,none⟩=some (.int .i64 k2)∧w'.cell? ⟨b',off'+kk*9+3,none⟩=some (.int .i64 m2)∧w'.cell? ⟨b',off'+kk*9+4,none⟩=some (.string s2)∧w'.cell? ⟨b',off'+kk*9+5,none⟩=some (.string t2)∧w'.cell? ⟨b',off'+kk*9+6,none⟩=some (.slice Y0 q0 d0)∧w'.cell? ⟨b',off'+kk*9+7,none⟩=some (.slice Y1 q1 d1)∧w'.cell? ⟨b',off'+kk*9+8,none⟩=some (.slice Y2 q2 d2)∧PtS wr w')
       ((refine HAll.out _ ?_;first | assumption | exact hs0.drew | exact .below ‹_› hs0.drew | exact .below ‹_› (.below ‹_› hs0.drew)))
       (first | (go_at_call 21;(with_reducible refine (HNp.out _ (by first | assumption | exact hs0.drew | exact .below ‹_› hs0.drew | exact .below ‹_› (.below ‹_› hs0.drew))).mono ?_);rintro e w' ⟨rfl,hb⟩) | (go_at_call 9;(with_reducible refine (HS.out _ (by first | assumption | exact hs0.drew | exact .below ‹_› hs0.drew | exact .below ‹_› (.below ‹_› hs0.drew))).mono ?_);rintro e w' ⟨rfl,hb⟩))
      rename_i hh
      have HBn:=Lib.hid (hB.out.trans (Below.mono (show Below wr.heap.size wr _ from hh.2.2.2.2.2.2.2.2.2.2.2.2.2.2.2.2.2.2.2.2) hB.out.size))
      clear hh HAll hs0
      go_wp2_with fail
      go_ret
      exact ⟨by rw [HRf.out];rfl,HB3.out.trans (HBn.out.mono HB3.out.size)⟩
     | true =>
      go_wp2_with fail
      clear a6 b6
      go_region_held3 (fun w'=>w'.cell? ⟨w.heap.size,6,none⟩=some (.slice (some ⟨b,off,none⟩) nb ca)∧w'.cell? ⟨w.heap.size+1,6,none⟩=some (.slice (some ⟨b',off',none⟩) nb da)∧w'.cell? ⟨b,off+kk*9,none⟩=some (.string OQ)∧w'.cell? ⟨b,off+kk*9+1,none⟩=some (.slice Xn on1 xc)∧w'.cell? ⟨b,off+kk*9+2,none⟩=some (.int .i64 k1)∧w'.cell? ⟨b,off+kk*9+3,none⟩=some (.int .i64 m1)∧w'.cell? ⟨b,off+kk*9+4,none⟩=some (.string s1)∧w'.cell? ⟨b,off+kk*9+5,none⟩=some (.string t1)∧w'.cell? ⟨b,off+kk*9+6,none⟩=some (.slice X0 p0 c0)∧w'.cell? ⟨b,off+kk*9+7,none⟩=some (.slice X1 p1 c1)∧w'.cell? ⟨b,off+kk*9+8,none⟩=some (.slice X2 p2 c2)∧w'.cell? ⟨b',off'+kk*9,none⟩=some (.string OQ)∧w'.cell? ⟨b',off'+kk*9+1,none⟩=some (.slice Yn on2 yc)∧w'.cell? ⟨b',off'+kk*9+2,none⟩=some (.int .i64 k2)∧w'.cell? ⟨b',off'+kk*9+3,none⟩=some (.int .i64 m2)∧w'.cell? ⟨b',off'+kk*9+4,none⟩=some (.string s2)∧w'.cell? ⟨b',off'+kk*9+5,none⟩=some (.string t2)∧w'.cell? ⟨b',off'+kk*9+6,none⟩=some (.slice Y0 q0 d0)∧w'.cell? ⟨b',off'+kk*9+7,none⟩=some (.slice Y1 q1 d1)∧w'.cell? ⟨b',off'+kk*9+8,none⟩=some (.slice Y2 q2 d2)∧PtS wr w')
       ((refine HAll.out _ ?_;first | assumption | exact hs0.drew | exact .below ‹_› hs0.drew | exact .below ‹_› (.below ‹_› hs0.drew)))
       (first | (go_at_call 21;(with_reducible refine (HNp.out _ (by first | assumption | exact hs0.drew | exact .below ‹_› hs0.drew | exact .below ‹_› (.below ‹_› hs0.drew))).mono ?_);rintro e w' ⟨rfl,hb⟩) | (go_at_call 9;(with_reducible refine (HS.out _ (by first | assumption | exact hs0.drew | exact .below ‹_› hs0.drew | exact .below ‹_› (.below ‹_› hs0.drew))).mono ?_);rintro e w' ⟨rfl,hb⟩))
      rename_i hh
      have HBn:=Lib.hid (hB.out.trans (Below.mono (show Below wr.heap.size wr _ from hh.2.2.2.2.2.2.2.2.2.2.2.2.2.2.2.2.2.2.2.2) hB.out.size))
      clear hh HAll hs0
      go_wp2_with fail
      go_roundw
      case rel=>exact ⟨kk+1,by omega,by go_num,HBn,Lib.hid (by rw [HTk.out,hSm.out,HD.out];rfl)⟩
      case measure=>simp [intOf];omega
    case neg =>
     obtain rfl:kk=nb:=by omega
     have HRr:Hid (R=true):=Lib.hid (by
      have h:=hSm.out
      rw [List.take_of_length_le (by rw [HOl.out,← HNb.out];exact Nat.le_refl _),List.take_of_length_le (by rw [← HNb.out];exact Nat.le_refl _),List.take_of_length_le (by rw [HOl'.out,← HNb'.out];exact Nat.le_refl _),List.take_of_length_le (by rw [← HNb'.out];exact Nat.le_refl _)] at h
      rw [HRt.out,HSl.out,h];rfl)
     go_wp2_with fail
     go_ret
     exact ⟨by rw [HRr.out];rfl,HB0.out⟩
mutual
def rlP:Ex→Int→Int→Int
 | .mk _ _ _ _ _ l _ bs,nodes,d=>if d < 1 then -1 else rlL bs (rlL l (nodes - 1) (d - 1)) (d - 1)
def rlL:List Ex→Int→Int→Int
 | [],nodes,_=>nodes
 | e :: r,nodes,d=>if nodes < 0 then nodes else rlL r (rlP e nodes d) d
end
theorem rlL_neg (l:List Ex)(nodes d:Int)(h:nodes < 0):rlL l nodes d=nodes:=by
 cases l with
 | nil=>rfl
 | cons e r=>rw [rlL,if_pos h]
theorem szL_cons (e:Ex)(l:List Ex):szL (e :: l)=(nodesE 1 e).length+szL l:=by unfold szL;simp
theorem szL_append (a b:List Ex):szL (a++b)=szL a+szL b:=by unfold szL;rw [List.map_append,List.sum_append]
mutual
theorem rlP_val:∀ (e:Ex) (nodes d:Int),0≤nodes→(((hE e:Int)≤d∧((nodesE 1 e).length:Int)≤nodes)→rlP e nodes d=nodes - (nodesE 1 e).length)∧(¬ ((hE e:Int)≤d∧((nodesE 1 e).length:Int)≤nodes)→rlP e nodes d < 0)
 | .mk k n s t ns l ops bs,nodes,d,h0=>by
  have e1:(nodesE 1 (.mk k n s t ns l ops bs)).length=1+szL (l++bs):=size_parts (.mk k n s t ns l ops bs)
  have e2:hE (.mk k n s t ns l ops bs)=1+hL (l++bs):=depth_parts (.mk k n s t ns l ops bs)
  rw [szL_append] at e1
  rw [hL_append] at e2
  rw [rlP,e1,e2]
  by_cases hd:d < 1
  ·rw [if_pos hd]
   exact ⟨fun h=>by omega,fun _=>by omega⟩
  ·rw [if_neg hd]
   by_cases hn:nodes - 1 < 0
   ·rw [rlL_neg l _ _ hn,rlL_neg bs _ _ hn]
    exact ⟨fun h=>by omega,fun _=>hn⟩
   ·have g1:=rlL_val l (nodes - 1) (d - 1) (by omega) (by omega)
    by_cases c1:(hL l:Int)≤d - 1∧(szL l:Int)≤nodes - 1
    ·rw [g1.1 c1]
     have g2:=rlL_val bs (nodes - 1 - szL l) (d - 1) (by omega) (by omega)
     exact ⟨fun h=>by rw [g2.1 (by omega)];omega,fun h=>g2.2 (by omega)⟩
    ·have g3:=g1.2 c1
     rw [rlL_neg bs _ _ g3]
     exact ⟨fun h=>absurd ⟨by omega,by omega⟩ c1,fun _=>g3⟩
theorem rlL_val:∀ (l:List Ex) (nodes d:Int),0≤nodes→0≤d→(((hL l:Int)≤d∧(szL l:Int)≤nodes)→rlL l nodes d=nodes - szL l)∧(¬ ((hL l:Int)≤d∧(szL l:Int)≤nodes)→rlL l nodes d < 0)
 | [],nodes,d,h0,hd=>by
  refine ⟨fun _=>by rw [rlL];show nodes=nodes - ((0:Nat):Int);omega,fun h=>absurd ⟨by simp only [hL];omega,?_⟩ h⟩
  show ((0:Nat):Int)≤nodes
  omega
 | e :: r,nodes,d,h0,hd=>by
  have g1:=rlP_val e nodes d h0
  rw [rlL,if_neg (by omega),szL_cons]
  have e2:hL (e :: r)=max (hE e) (hL r):=by rw [hL]
  rw [e2]
  by_cases c1:(hE e:Int)≤d∧((nodesE 1 e).length:Int)≤nodes
  ·rw [g1.1 c1]
   have g2:=rlL_val r (nodes - (nodesE 1 e).length) d (by omega) hd
   exact ⟨fun h=>by rw [g2.1 (by omega)];omega,fun h=>g2.2 (by omega)⟩
  ·have g3:=g1.2 c1
   rw [rlL_neg r _ _ g3]
   exact ⟨fun h=>absurd ⟨by omega,by omega⟩ c1,fun _=>g3⟩
end
mutual
theorem rlP_lo:∀ (e:Ex) (nodes d:Int),0≤nodes→-1≤rlP e nodes d∧rlP e nodes d≤nodes
 | .mk k n s t ns l ops bs,nodes,d,h=>by
  rw [rlP]
  split
  ·omega
  ·have g1:=rlL_lo l (nodes - 1) (d - 1) (by omega)
   have g2:=rlL_lo bs (rlL l (nodes - 1) (d - 1)) (d - 1) g1.1
   omega
theorem rlL_lo:∀ (l:List Ex) (nodes d:Int),-1≤nodes→-1≤rlL l nodes d∧rlL l nodes d≤nodes
 | [],nodes,d,h=>by rw [rlL];omega
 | e :: r,nodes,d,h=>by
  rw [rlL]
  split
  ·omega
  ·have g1:=rlP_lo e nodes d (by omega)
   have g2:=rlL_lo r (rlP e nodes d) d g1.1
   omega
end
theorem rlL_append:∀ (a b:List Ex) (nodes d:Int),rlL (a++b) nodes d=rlL b (rlL a nodes d) d
 | [],b,nodes,d=>by rw [List.nil_append,rlL]
 | x :: r,b,nodes,d=>by
  rw [List.cons_append,rlL,rlL]
  split
  ·rename_i h
   rw [rlL_neg b _ _ h]
  ·exact rlL_append r b _ d
theorem rlL_snoc (l:List Ex)(x:Ex)(nodes d:Int):rlL (l++[x]) nodes d=if rlL l nodes d < 0 then rlL l nodes d else rlP x (rlL l nodes d) d:=by
 rw [rlL_append,rlL]
 split
 ·rfl
 ·rw [rlL]
theorem rlP_parts (e:Ex)(nodes d:Int):rlP e nodes d=if d < 1 then -1 else rlL e.parts (nodes - 1) (d - 1):=by
 cases e with
 | mk k n s t ns l ops bs =>
  rw [rlP]
  show _=if d < 1 then -1 else rlL (l++bs) _ _
  rw [rlL_append]
theorem kind0 {c:Int}(h:kindI c=0):c < 48∨(57 < c∧c < 65)∨(90 < c∧c < 95)∨c=96∨122 < c:=by
 unfold kindI at h
 repeat' split at h
 all_goals omega
theorem kindn {c:Int}(h:kindI c≠0):(97≤c∧c≤122)∨(65≤c∧c≤90)∨(48≤c∧c≤57)∨c=95:=by
 unfold kindI at h
 repeat' split at h
 all_goals omega
theorem kind1 {c:Int}:kindI c=1↔(97≤c∧c≤122)∨c=95:=by
 unfold kindI
 repeat' split
 all_goals omega
theorem kind2 {c:Int}:kindI c=2↔65≤c∧c≤90:=by
 unfold kindI
 repeat' split
 all_goals omega
set_option maxRecDepth 100000 in
set_option maxHeartbeats 4000000 in
theorem word_lower (s:ByteArray)(w:World)(hs:s.size≤maxLen) :
  Calls Tryz.prog 129 #[.string s,.int .u8 97,.int .u8 122,.bool true] w fun e w'=>e=.returned (.bool (isNm 1 s.data.toList))∧w=w':=by
 unfold maxLen at hs
 by_cases h0:1≤s.size∧s.size≤12
 ·have HI:Hid (∀ w,Calls Tryz.prog 78 #[.int .i64 (s.size:Int),.int .i64 1,.int .i64 12] w fun e w'=>e=.returned (.bool true)∧w=w'):=fun w=>(In_any _ _ _ w).mono fun e w' h=>⟨by rw [h.1];apply ret_bool;simp;omega,h.2⟩
  have hp:0 < s.size:=by omega
  obtain ⟨h1,h2⟩:=h0
  by_cases hk:kindI ((s[0]'hp).toNat:Int)=1
  ·have HK:=Lib.hid hk
   have hk':=kind1.1 hk
   clear hk
   rcases hk' with ⟨z1,z2⟩ | z
   ·go_enter Tryz.func129,Tryz.ntmps129
    go_wp2_with (go_at_call 78;refine (HI.out _).mono ?_;rintro e w' ⟨rfl,rfl⟩)
    go_loop [9] (fun i=>∃ k:Nat,k≤s.size∧i=.int .i64 (k:Int)∧Hid (∀ (j:Nat) (h:j < s.size),j < k→kb s[j]≠0)) (fun i=>s.size - (intOf i).toNat)
    case atStart=>exact ⟨0,by omega,rfl,fun j h h2=>by omega⟩
    case round =>
     obtain ⟨k,hk,rfl,HA⟩:=hrel
     by_cases hkl:k < s.size
     ·by_cases hz:kindI ((s[k]'hkl).toNat:Int)=0
      ·have HR:=Lib.hid (show isNm 1 s.data.toList=false from isNm_bad k (by rw [len_data];exact hkl) hz)
       have hz':=kind0 hz
       have b95:(((s[k]'hkl).toNat:Int) == 95)=false:=by
        rw [beq_eq_false_iff_ne];omega
       clear hz HA
       rcases hz' with y1 | ⟨y1,y2⟩ | ⟨y1,y2⟩ | y1 | y1
       all_goals first | (have y3:((s[k]'hkl).toNat:Int)≤96:=(by omega);have y4:96≤((s[k]'hkl).toNat:Int):=(by omega);clear y1) | skip
       all_goals
        first | (have e97:decide (97≤((s[k]'hkl).toNat:Int))=true:=decide_eq_true (by omega)) | (have e97:decide (97≤((s[k]'hkl).toNat:Int))=false:=decide_eq_false (by omega))
        first | (have e122:decide (((s[k]'hkl).toNat:Int)≤122)=true:=decide_eq_true (by omega)) | (have e122:decide (((s[k]'hkl).toNat:Int)≤122)=false:=decide_eq_false (by omega))
        first | (have e65:decide (65≤((s[k]'hkl).toNat:Int))=true:=decide_eq_true (by omega)) | (have e65:decide (65≤((s[k]'hkl).toNat:Int))=false:=decide_eq_false (by omega))
        first | (have e90:decide (((s[k]'hkl).toNat:Int)≤90)=true:=decide_eq_true (by omega)) | (have e90:decide (((s[k]'hkl).toNat:Int)≤90)=false:=decide_eq_false (by omega))
        first | (have e48:decide (48≤((s[k]'hkl).toNat:Int))=true:=decide_eq_true (by omega)) | (have e48:decide (48≤((s[k]'hkl).toNat:Int))=false:=decide_eq_false (by omega))
        first | (have e57:decide (((s[k]'hkl).toNat:Int)≤57)=true:=decide_eq_true (by omega)) | (have e57:decide (((s[k]'hkl).toNat:Int)≤57)=false:=decide_eq_false (by omega))
        go_wp2_with fail
        go_ret
        exact ⟨ret_bool HR.out.symm,rfl⟩
      ·have HA2:Hid (∀ (j:Nat) (h:j < s.size),j < k+1→kb s[j]≠0):=fun j h hj=>by
        by_cases e:j=k
        ·subst e;exact hz
        ·exact HA.out j h (by omega)
       have hz':=kindn hz
       clear hz HA
       rcases hz' with ⟨y1,y2⟩ | ⟨y1,y2⟩ | ⟨y1,y2⟩ | y1
       ·have b95:(((s[k]'hkl).toNat:Int) == 95)=false:=by rw [beq_eq_false_iff_ne];omega
        go_wp2_with fail
        go_round
        case rel=>exact ⟨k+1,by omega,by go_num,HA2⟩
        case measure=>simp [intOf];omega
       ·have b95:(((s[k]'hkl).toNat:Int) == 95)=false:=by rw [beq_eq_false_iff_ne];omega
        go_wp2_with fail
        go_round
        case rel=>exact ⟨k+1,by omega,by go_num,HA2⟩
        case measure=>simp [intOf];omega
       ·have b95:(((s[k]'hkl).toNat:Int) == 95)=false:=by rw [beq_eq_false_iff_ne];omega
        go_wp2_with fail
        go_round
        case rel=>exact ⟨k+1,by omega,by go_num,HA2⟩
        case measure=>simp [intOf];omega
       ·have b95:(((s[k]'hkl).toNat:Int) == 95)=true:=by rw [beq_iff_eq];exact y1
        have y2:((s[k]'hkl).toNat:Int)≤95:=by omega
        have y3:95≤((s[k]'hkl).toNat:Int):=by omega
        clear y1
        first | (have e97:decide (97≤((s[k]'hkl).toNat:Int))=true:=decide_eq_true (by omega)) | (have e97:decide (97≤((s[k]'hkl).toNat:Int))=false:=decide_eq_false (by omega))
        first | (have e122:decide (((s[k]'hkl).toNat:Int)≤122)=true:=decide_eq_true (by omega)) | (have e122:decide (((s[k]'hkl).toNat:Int)≤122)=false:=decide_eq_false (by omega))
        first | (have e65:decide (65≤((s[k]'hkl).toNat:Int))=true:=decide_eq_true (by omega)) | (have e65:decide (65≤((s[k]'hkl).toNat:Int))=false:=decide_eq_false (by omega))
        first | (have e90:decide (((s[k]'hkl).toNat:Int)≤90)=true:=decide_eq_true (by omega)) | (have e90:decide (((s[k]'hkl).toNat:Int)≤90)=false:=decide_eq_false (by omega))
        first | (have e48:decide (48≤((s[k]'hkl).toNat:Int))=true:=decide_eq_true (by omega)) | (have e48:decide (48≤((s[k]'hkl).toNat:Int))=false:=decide_eq_false (by omega))
        first | (have e57:decide (((s[k]'hkl).toNat:Int)≤57)=true:=decide_eq_true (by omega)) | (have e57:decide (((s[k]'hkl).toNat:Int)≤57)=false:=decide_eq_false (by omega))
        go_wp2_with fail
        go_round
        case rel=>exact ⟨k+1,by omega,by go_num,HA2⟩
        case measure=>simp [intOf];omega
     ·obtain rfl:k=s.size:=by omega
      have HR:=Lib.hid (show isNm 1 s.data.toList=true from isNm_true (by rw [len_data];omega) (by rw [len_data];omega) HK.out (fun j h=>HA.out j (by rw [← len_data];exact h) (by rw [← len_data];exact h)))
      clear HA HK
      go_wp2_with fail
      go_ret
      exact ⟨ret_bool HR.out.symm,rfl⟩
   ·have z95:(((s[0]'hp).toNat:Int) == 95)=true:=by rw [beq_iff_eq];exact z
    have z1:((s[0]'hp).toNat:Int)≤95:=by omega
    clear z
    go_enter Tryz.func129,Tryz.ntmps129
    go_wp2_with (go_at_call 78;refine (HI.out _).mono ?_;rintro e w' ⟨rfl,rfl⟩)
    go_loop [9] (fun i=>∃ k:Nat,k≤s.size∧i=.int .i64 (k:Int)∧Hid (∀ (j:Nat) (h:j < s.size),j < k→kb s[j]≠0)) (fun i=>s.size - (intOf i).toNat)
    case atStart=>exact ⟨0,by omega,rfl,fun j h h2=>by omega⟩
    case round =>
     obtain ⟨k,hk,rfl,HA⟩:=hrel
     by_cases hkl:k < s.size
     ·by_cases hz:kindI ((s[k]'hkl).toNat:Int)=0
      ·have HR:=Lib.hid (show isNm 1 s.data.toList=false from isNm_bad k (by rw [len_data];exact hkl) hz)
       have hz':=kind0 hz
       have b95:(((s[k]'hkl).toNat:Int) == 95)=false:=by
        rw [beq_eq_false_iff_ne];omega
       clear hz HA
       rcases hz' with y1 | ⟨y1,y2⟩ | ⟨y1,y2⟩ | y1 | y1
       all_goals first | (have y3:((s[k]'hkl).toNat:Int)≤96:=(by omega);have y4:96≤((s[k]'hkl).toNat:Int):=(by omega);clear y1) | skip
       all_goals
        first | (have e97:decide (97≤((s[k]'hkl).toNat:Int))=true:=decide_eq_true (by omega)) | (have e97:decide (97≤((s[k]'hkl).toNat:Int))=false:=decide_eq_false (by omega))
        first | (have e122:decide (((s[k]'hkl).toNat:Int)≤122)=true:=decide_eq_true (by omega)) | (have e122:decide (((s[k]'hkl).toNat:Int)≤122)=false:=decide_eq_false (by omega))
        first | (have e65:decide (65≤((s[k]'hkl).toNat:Int))=true:=decide_eq_true (by omega)) | (have e65:decide (65≤((s[k]'hkl).toNat:Int))=false:=decide_eq_false (by omega))
        first | (have e90:decide (((s[k]'hkl).toNat:Int)≤90)=true:=decide_eq_true (by omega)) | (have e90:decide (((s[k]'hkl).toNat:Int)≤90)=false:=decide_eq_false (by omega))
        first | (have e48:decide (48≤((s[k]'hkl).toNat:Int))=true:=decide_eq_true (by omega)) | (have e48:decide (48≤((s[k]'hkl).toNat:Int))=false:=decide_eq_false (by omega))
        first | (have e57:decide (((s[k]'hkl).toNat:Int)≤57)=true:=decide_eq_true (by omega)) | (have e57:decide (((s[k]'hkl).toNat:Int)≤57)=false:=decide_eq_false (by omega))
        go_wp2_with fail
        go_ret
        exact ⟨ret_bool HR.out.symm,rfl⟩
      ·have HA2:Hid (∀ (j:Nat) (h:j < s.size),j < k+1→kb s[j]≠0):=fun j h hj=>by
        by_cases e:j=k
        ·subst e;exact hz
        ·exact HA.out j h (by omega)
       have hz':=kindn hz
       clear hz HA
       rcases hz' with ⟨y1,y2⟩ | ⟨y1,y2⟩ | ⟨y1,y2⟩ | y1
       ·have b95:(((s[k]'hkl).toNat:Int) == 95)=false:=by rw [beq_eq_false_iff_ne];omega
        go_wp2_with fail
        go_round
        case rel=>exact ⟨k+1,by omega,by go_num,HA2⟩
        case measure=>simp [intOf];omega
       ·have b95:(((s[k]'hkl).toNat:Int) == 95)=false:=by rw [beq_eq_false_iff_ne];omega
        go_wp2_with fail
        go_round
        case rel=>exact ⟨k+1,by omega,by go_num,HA2⟩
        case measure=>simp [intOf];omega
       ·have b95:(((s[k]'hkl).toNat:Int) == 95)=false:=by rw [beq_eq_false_iff_ne];omega
        go_wp2_with fail
        go_round
        case rel=>exact ⟨k+1,by omega,by go_num,HA2⟩
        case measure=>simp [intOf];omega
       ·have b95:(((s[k]'hkl).toNat:Int) == 95)=true:=by rw [beq_iff_eq];exact y1
        have y2:((s[k]'hkl).toNat:Int)≤95:=by omega
        have y3:95≤((s[k]'hkl).toNat:Int):=by omega
        clear y1
        first | (have e97:decide (97≤((s[k]'hkl).toNat:Int))=true:=decide_eq_true (by omega)) | (have e97:decide (97≤((s[k]'hkl).toNat:Int))=false:=decide_eq_false (by omega))
        first | (have e122:decide (((s[k]'hkl).toNat:Int)≤122)=true:=decide_eq_true (by omega)) | (have e122:decide (((s[k]'hkl).toNat:Int)≤122)=false:=decide_eq_false (by omega))
        first | (have e65:decide (65≤((s[k]'hkl).toNat:Int))=true:=decide_eq_true (by omega)) | (have e65:decide (65≤((s[k]'hkl).toNat:Int))=false:=decide_eq_false (by omega))
        first | (have e90:decide (((s[k]'hkl).toNat:Int)≤90)=true:=decide_eq_true (by omega)) | (have e90:decide (((s[k]'hkl).toNat:Int)≤90)=false:=decide_eq_false (by omega))
        first | (have e48:decide (48≤((s[k]'hkl).toNat:Int))=true:=decide_eq_true (by omega)) | (have e48:decide (48≤((s[k]'hkl).toNat:Int))=false:=decide_eq_false (by omega))
        first | (have e57:decide (((s[k]'hkl).toNat:Int)≤57)=true:=decide_eq_true (by omega)) | (have e57:decide (((s[k]'hkl).toNat:Int)≤57)=false:=decide_eq_false (by omega))
        go_wp2_with fail
        go_round
        case rel=>exact ⟨k+1,by omega,by go_num,HA2⟩
        case measure=>simp [intOf];omega
     ·obtain rfl:k=s.size:=by omega
      have HR:=Lib.hid (show isNm 1 s.data.toList=true from isNm_true (by rw [len_data];omega) (by rw [len_data];omega) HK.out (fun j h=>HA.out j (by rw [← len_data];exact h) (by rw [← len_data];exact h)))
      clear HA HK
      go_wp2_with fail
      go_ret
      exact ⟨ret_bool HR.out.symm,rfl⟩
  ·have HR:=Lib.hid (show isNm 1 s.data.toList=false from isNm_first (by rw [len_data];exact hp) hk)
   have hk':¬ ((97≤((s[0]'hp).toNat:Int)∧((s[0]'hp).toNat:Int)≤122)∨((s[0]'hp).toNat:Int)=95):=fun h=>hk (kind1.2 h)
   have z95:(((s[0]'hp).toNat:Int) == 95)=false:=by rw [beq_eq_false_iff_ne];intro h;exact hk' (.inr h)
   have z:((s[0]'hp).toNat:Int) < 97∨122 < ((s[0]'hp).toNat:Int):=by omega
   clear hk hk'
   rcases z with z | z
   all_goals
    first | (have e97:decide (97≤((s[0]'hp).toNat:Int))=true:=decide_eq_true (by omega)) | (have e97:decide (97≤((s[0]'hp).toNat:Int))=false:=decide_eq_false (by omega))
    first | (have e122:decide (((s[0]'hp).toNat:Int)≤122)=true:=decide_eq_true (by omega)) | (have e122:decide (((s[0]'hp).toNat:Int)≤122)=false:=decide_eq_false (by omega))
    go_enter Tryz.func129,Tryz.ntmps129
    go_wp2_with (go_at_call 78;refine (HI.out _).mono ?_;rintro e w' ⟨rfl,rfl⟩)
    go_ret
    exact ⟨ret_bool HR.out.symm,rfl⟩
 ·have HI:Hid (∀ w,Calls Tryz.prog 78 #[.int .i64 (s.size:Int),.int .i64 1,.int .i64 12] w fun e w'=>e=.returned (.bool false)∧w=w'):=fun w=>(In_any _ _ _ w).mono fun e w' h=>⟨by rw [h.1];apply ret_bool;simp;omega,h.2⟩
  have HR:=Lib.hid (show isNm 1 s.data.toList=false by
   rcases Nat.lt_or_ge 12 s.size with h | h
   ·exact isNm_long (by rw [len_data];exact h)
   ·have:s.data.toList=[]:=List.eq_nil_of_length_eq_zero (by rw [len_data];omega)
    rw [this];rfl)
  clear h0
  go_enter Tryz.func129,Tryz.ntmps129
  go_wp2_with (go_at_call 78;refine (HI.out _).mono ?_;rintro e w' ⟨rfl,rfl⟩)
  go_ret
  exact ⟨ret_bool HR.out.symm,rfl⟩
set_option maxRecDepth 100000 in
set_option maxHeartbeats 4000000 in
theorem word_upper (s:ByteArray)(w:World)(hs:s.size≤maxLen) :
  Calls Tryz.prog 129 #[.string s,.int .u8 65,.int .u8 90,.bool false] w fun e w'=>e=.returned (.bool (isNm 2 s.data.toList))∧w=w':=by
 unfold maxLen at hs
 by_cases h0:1≤s.size∧s.size≤12
 ·have HI:Hid (∀ w,Calls Tryz.prog 78 #[.int .i64 (s.size:Int),.int .i64 1,.int .i64 12] w fun e w'=>e=.returned (.bool true)∧w=w'):=fun w=>(In_any _ _ _ w).mono fun e w' h=>⟨by rw [h.1];apply ret_bool;simp;omega,h.2⟩
  have hp:0 < s.size:=by omega
  obtain ⟨h1,h2⟩:=h0
  by_cases hk:kindI ((s[0]'hp).toNat:Int)=2
  ·have HK:=Lib.hid hk
   have hk':=kind2.1 hk
   clear hk
   obtain ⟨z1,z2⟩:=hk'
   go_enter Tryz.func129,Tryz.ntmps129
   go_wp2_with (go_at_call 78;refine (HI.out _).mono ?_;rintro e w' ⟨rfl,rfl⟩)
   go_loop [9] (fun i=>∃ k:Nat,k≤s.size∧i=.int .i64 (k:Int)∧Hid (∀ (j:Nat) (h:j < s.size),j < k→kb s[j]≠0)) (fun i=>s.size - (intOf i).toNat)
   case atStart=>exact ⟨0,by omega,rfl,fun j h h2=>by omega⟩
   case round =>
    obtain ⟨k,hk,rfl,HA⟩:=hrel
    by_cases hkl:k < s.size
    ·by_cases hz:kindI ((s[k]'hkl).toNat:Int)=0
     ·have HR:=Lib.hid (show isNm 2 s.data.toList=false from isNm_bad k (by rw [len_data];exact hkl) hz)
      have hz':=kind0 hz
      have b95:(((s[k]'hkl).toNat:Int) == 95)=false:=by
       rw [beq_eq_false_iff_ne];omega
      clear hz HA
      rcases hz' with y1 | ⟨y1,y2⟩ | ⟨y1,y2⟩ | y1 | y1
      all_goals first | (have y3:((s[k]'hkl).toNat:Int)≤96:=(by omega);have y4:96≤((s[k]'hkl).toNat:Int):=(by omega);clear y1) | skip
      all_goals
       first | (have e97:decide (97≤((s[k]'hkl).toNat:Int))=true:=decide_eq_true (by omega)) | (have e97:decide (97≤((s[k]'hkl).toNat:Int))=false:=decide_eq_false (by omega))
       first | (have e122:decide (((s[k]'hkl).toNat:Int)≤122)=true:=decide_eq_true (by omega)) | (have e122:decide (((s[k]'hkl).toNat:Int)≤122)=false:=decide_eq_false (by omega))
       first | (have e65:decide (65≤((s[k]'hkl).toNat:Int))=true:=decide_eq_true (by omega)) | (have e65:decide (65≤((s[k]'hkl).toNat:Int))=false:=decide_eq_false (by omega))
       first | (have e90:decide (((s[k]'hkl).toNat:Int)≤90)=true:=decide_eq_true (by omega)) | (have e90:decide (((s[k]'hkl).toNat:Int)≤90)=false:=decide_eq_false (by omega))
       first | (have e48:decide (48≤((s[k]'hkl).toNat:Int))=true:=decide_eq_true (by omega)) | (have e48:decide (48≤((s[k]'hkl).toNat:Int))=false:=decide_eq_false (by omega))
       first | (have e57:decide (((s[k]'hkl).toNat:Int)≤57)=true:=decide_eq_true (by omega)) | (have e57:decide (((s[k]'hkl).toNat:Int)≤57)=false:=decide_eq_false (by omega))
       go_wp2_with fail
       go_ret
       exact ⟨ret_bool HR.out.symm,rfl⟩
     ·have HA2:Hid (∀ (j:Nat) (h:j < s.size),j < k+1→kb s[j]≠0):=fun j h hj=>by
       by_cases e:j=k
       ·subst e;exact hz
       ·exact HA.out j h (by omega)
      have hz':=kindn hz
      clear hz HA
      rcases hz' with ⟨y1,y2⟩ | ⟨y1,y2⟩ | ⟨y1,y2⟩ | y1
      ·have b95:(((s[k]'hkl).toNat:Int) == 95)=false:=by rw [beq_eq_false_iff_ne];omega
       go_wp2_with fail
       go_round
       case rel=>exact ⟨k+1,by omega,by go_num,HA2⟩
       case measure=>simp [intOf];omega
      ·have b95:(((s[k]'hkl).toNat:Int) == 95)=false:=by rw [beq_eq_false_iff_ne];omega
       go_wp2_with fail
       go_round
       case rel=>exact ⟨k+1,by omega,by go_num,HA2⟩
       case measure=>simp [intOf];omega
      ·have b95:(((s[k]'hkl).toNat:Int) == 95)=false:=by rw [beq_eq_false_iff_ne];omega
       go_wp2_with fail
       go_round
       case rel=>exact ⟨k+1,by omega,by go_num,HA2⟩
       case measure=>simp [intOf];omega
      ·have b95:(((s[k]'hkl).toNat:Int) == 95)=true:=by rw [beq_iff_eq];exact y1
       have y2:((s[k]'hkl).toNat:Int)≤95:=by omega
       have y3:95≤((s[k]'hkl).toNat:Int):=by omega
       clear y1
       first | (have e97:decide (97≤((s[k]'hkl).toNat:Int))=true:=decide_eq_true (by omega)) | (have e97:decide (97≤((s[k]'hkl).toNat:Int))=false:=decide_eq_false (by omega))
       first | (have e122:decide (((s[k]'hkl).toNat:Int)≤122)=true:=decide_eq_true (by omega)) | (have e122:decide (((s[k]'hkl).toNat:Int)≤122)=false:=decide_eq_false (by omega))
       first | (have e65:decide (65≤((s[k]'hkl).toNat:Int))=true:=decide_eq_true (by omega)) | (have e65:decide (65≤((s[k]'hkl).toNat:Int))=false:=decide_eq_false (by omega))
       first | (have e90:decide (((s[k]'hkl).toNat:Int)≤90)=true:=decide_eq_true (by omega)) | (have e90:decide (((s[k]'hkl).toNat:Int)≤90)=false:=decide_eq_false (by omega))
       first | (have e48:decide (48≤((s[k]'hkl).toNat:Int))=true:=decide_eq_true (by omega)) | (have e48:decide (48≤((s[k]'hkl).toNat:Int))=false:=decide_eq_false (by omega))
       first | (have e57:decide (((s[k]'hkl).toNat:Int)≤57)=true:=decide_eq_true (by omega)) | (have e57:decide (((s[k]'hkl).toNat:Int)≤57)=false:=decide_eq_false (by omega))
       go_wp2_with fail
       go_round
       case rel=>exact ⟨k+1,by omega,by go_num,HA2⟩
       case measure=>simp [intOf];omega
    ·obtain rfl:k=s.size:=by omega
     have HR:=Lib.hid (show isNm 2 s.data.toList=true from isNm_true (by rw [len_data];omega) (by rw [len_data];omega) HK.out (fun j h=>HA.out j (by rw [← len_data];exact h) (by rw [← len_data];exact h)))
     clear HA HK
     go_wp2_with fail
     go_ret
     exact ⟨ret_bool HR.out.symm,rfl⟩
  ·have HR:=Lib.hid (show isNm 2 s.data.toList=false from isNm_first (by rw [len_data];exact hp) hk)
   have z:((s[0]'hp).toNat:Int) < 65∨90 < ((s[0]'hp).toNat:Int):=by
    have hk':¬ (65≤((s[0]'hp).toNat:Int)∧((s[0]'hp).toNat:Int)≤90):=fun h=>hk (kind2.2 h)
    omega
   clear hk
   rcases z with z | z
   all_goals
    first | (have e65:decide (65≤((s[0]'hp).toNat:Int))=true:=decide_eq_true (by omega)) | (have e65:decide (65≤((s[0]'hp).toNat:Int))=false:=decide_eq_false (by omega))
    first | (have e90:decide (((s[0]'hp).toNat:Int)≤90)=true:=decide_eq_true (by omega)) | (have e90:decide (((s[0]'hp).toNat:Int)≤90)=false:=decide_eq_false (by omega))
    go_enter Tryz.func129,Tryz.ntmps129
    go_wp2_with (go_at_call 78;refine (HI.out _).mono ?_;rintro e w' ⟨rfl,rfl⟩)
    go_ret
    exact ⟨ret_bool HR.out.symm,rfl⟩
 ·have HI:Hid (∀ w,Calls Tryz.prog 78 #[.int .i64 (s.size:Int),.int .i64 1,.int .i64 12] w fun e w'=>e=.returned (.bool false)∧w=w'):=fun w=>(In_any _ _ _ w).mono fun e w' h=>⟨by rw [h.1];apply ret_bool;simp;omega,h.2⟩
  have HR:=Lib.hid (show isNm 2 s.data.toList=false by
   rcases Nat.lt_or_ge 12 s.size with h | h
   ·exact isNm_long (by rw [len_data];exact h)
   ·have:s.data.toList=[]:=List.eq_nil_of_length_eq_zero (by rw [len_data];omega)
    rw [this];rfl)
  clear h0
  go_enter Tryz.func129,Tryz.ntmps129
  go_wp2_with (go_at_call 78;refine (HI.out _).mono ?_;rintro e w' ⟨rfl,rfl⟩)
  go_ret
  exact ⟨ret_bool HR.out.symm,rfl⟩
set_option maxHeartbeats 400000 in
theorem rIsUpper_any (s:ByteArray)(w:World)(hs:s.size≤maxLen):Calls Tryz.prog 106 #[.string s] w fun e w'=>e=.returned (.bool (isNm 2 s.data.toList))∧w=w':=by
 have H:=Lib.hid (fun w=>word_upper s w hs)
 go_enter Tryz.func106,Tryz.ntmps106
 go_wp2_with (go_at_call 129;refine (H.out _).mono ?_;rintro e w' ⟨rfl,rfl⟩)
 go_ret
 exact ⟨rfl,rfl⟩
theorem HasKw (A:Option Addr)(c:Nat)(s:ByteArray)(w:World)(hL:StrsAt w A kwList):Calls Tryz.prog 107 #[.slice A 25 c,.string s] w fun e w'=>e=.returned (.bool (isKw s.data.toList))∧w=w' :=
 Has_any A c kwList s w hL (by decide)
set_option maxHeartbeats 400000 in
theorem rIsVar_any (s:ByteArray)(w:World)(hs:s.size≤maxLen):Calls Tryz.prog 105 #[.string s] w fun e w'=>e=.returned (.bool (isV s.data.toList))∧Below w.heap.size w w':=by
 unfold isV
 cases h1:isNm 1 s.data.toList with
 | false =>
  have H1:Hid (∀ w,Calls Tryz.prog 129 #[.string s,.int .u8 97,.int .u8 122,.bool true] w fun e w'=>e=.returned (.bool false)∧w=w'):=fun w=>(word_lower s w hs).mono fun e w' h=>⟨by rw [h.1,h1],h.2⟩
  clear h1
  go_enter Tryz.func105,Tryz.ntmps105
  go_wp2_with (go_at_call 129;refine (H1.out _).mono ?_;rintro e w' ⟨rfl,rfl⟩)
  go_ret
  exact ⟨ret_bool rfl,Below.refl _ _⟩
 | true =>
  have H1:Hid (∀ w,Calls Tryz.prog 129 #[.string s,.int .u8 97,.int .u8 122,.bool true] w fun e w'=>e=.returned (.bool true)∧w=w'):=fun w=>(word_lower s w hs).mono fun e w' h=>⟨by rw [h.1,h1],h.2⟩
  clear h1
  go_enter Tryz.func105,Tryz.ntmps105
  go_wp2_with (first | (go_at_call 129;refine (H1.out _).mono ?_;rintro e w' ⟨rfl,rfl⟩) | (go_at_call 130;refine (Keywords_any _).mono ?_;rintro e w2 ⟨A,c,rfl,hL,hb⟩;have HL:=Lib.hid hL;have HB:=Lib.hid hb;clear hL hb) | (go_at_call 107;refine (HasKw _ _ _ _ HL.out).mono ?_;rintro e w' ⟨rfl,rfl⟩))
  go_ret
  exact ⟨ret_bool (by simp),HB.out⟩
def rCls (n:Int)(s:List UInt8):Bool:=if n=1 then isV s else if n=2 then isNm 2 s else if n=3 then [[43],[45],[42],[60],[61,61]].contains s else s == []
theorem rCls_prim (s:List UInt8):([[43],[45],[42],[60],[61,61]]:List (List UInt8)).contains s=(opLv s).isSome:=by
 unfold opLv
 by_cases h1:s=[42]
 ·subst h1;rfl
 ·by_cases h2:s=[43]
  ·subst h2;rfl
  ·by_cases h3:s=[45]
   ·subst h3;rfl
   ·by_cases h4:s=[60]
    ·subst h4;rfl
    ·by_cases h5:s=[61,61]
     ·subst h5;rfl
     ·simp [h1,h2,h3,h4,h5]
set_option maxRecDepth 100000 in
set_option maxHeartbeats 1000000 in
theorem class_any (s:List UInt8)(n:Int)(w:World)(hs:s.length≤maxLen):Calls Tryz.prog 79 #[.string (strB s),.int .i64 n] w fun e w'=>e=.returned (.bool (rCls n s))∧Below w.heap.size w w':=by
 obtain ⟨r,hr⟩:∃ r,r=rCls n s:=⟨_,rfl⟩
 rw [← hr]
 unfold rCls at hr
 have hsz:(strB s).size≤maxLen:=by rw [strB_size];exact hs
 have HR:=Lib.hid hr
 clear hr
 by_cases h1:n=1
 ·have HV:=Lib.hid (rIsVar_any (strB s) w hsz)
  have HR2:Hid (r=isV s):=Lib.hid (by rw [HR.out,if_pos h1])
  subst h1
  go_enter Tryz.func79,Tryz.ntmps79
  go_wp2_with fail
  refine HV.out.mono ?_
  rintro e w' ⟨rfl,hb⟩
  have HB:=Lib.hid hb
  clear hb
  go_wp2_with fail
  go_ret
  exact ⟨by rw [HR2.out];rfl,HB.out⟩
 ·have q1:(n == 1)=false:=beq_eq_false_iff_ne.2 h1
  by_cases h2:n=2
  ·have HV:=Lib.hid (rIsUpper_any (strB s) w hsz)
   have HR2:Hid (r=isNm 2 s):=Lib.hid (by rw [HR.out,if_neg h1,if_pos h2])
   subst h2
   clear h1 q1
   go_enter Tryz.func79,Tryz.ntmps79
   go_wp2_with fail
   refine HV.out.mono ?_
   rintro e w' ⟨rfl,rfl⟩
   go_wp2_with fail
   go_ret
   exact ⟨by rw [HR2.out];rfl,Below.refl _ _⟩
  ·have q2:(n == 2)=false:=beq_eq_false_iff_ne.2 h2
   by_cases h3:n=3
   ·have HR2:Hid (r=[[43],[45],[42],[60],[61,61]].contains s):=Lib.hid (by rw [HR.out,if_neg h1,if_neg h2,if_pos h3])
    have H:=Lib.hid (strs_lit w [[43],[45],[42],[60],[61,61]] 9)
    have HV:=Lib.hid (fun w' A c hL=>Has_any A c [[43],[45],[42],[60],[61,61]] (strB s) w' hL (by decide))
    obtain ⟨q,hq⟩:∃ q,q=([[43],[45],[42],[60],[61,61]]:List (List UInt8)).contains s:=⟨_,rfl⟩
    have HV2:Hid (∀ w' A c,StrsAt w' A [[43],[45],[42],[60],[61,61]]→Calls Tryz.prog 107 #[.slice A 5 c,.string (strB s)] w' fun e w2=>e=.returned (.bool q)∧w'=w2):=Lib.hid (fun w' A c hL=>by rw [hq];exact HV.out w' A c hL)
    rw [← hq] at HR2
    subst h3
    clear h1 h2 q1 q2 HV hq
    go_enter Tryz.func79,Tryz.ntmps79
    go_wp2_with fail
    refine (HV2.out _ _ _ H.out).mono ?_
    rintro e w' ⟨rfl,rfl⟩
    go_wp2_with fail
    go_ret
    exact ⟨by rw [HR2.out];rfl,(Below.refl _ _).alloc (Nat.le_refl _) _⟩
   ·have q3:(n == 3)=false:=beq_eq_false_iff_ne.2 h3
    have HR2:Hid (r=(s == [])):=Lib.hid (by rw [HR.out,if_neg h1,if_neg h2,if_neg h3])
    obtain ⟨q,hq⟩:∃ q,q=(s == []):=⟨_,rfl⟩
    have hc:((strB s).toList == [])=q:=by rw [ByteArray.toList_eq,data_strB,hq]
    rw [← hq] at HR2
    clear hq h1 h2 h3
    go_enter Tryz.func79,Tryz.ntmps79
    go_wp2_with fail
    go_ret
    exact ⟨by rw [HR2.out];rfl,Below.refl _ _⟩
theorem Has_nil (A:Option Addr)(c:Nat)(s:ByteArray)(w:World) :
  Calls Tryz.prog 107 #[.slice A 0 c,.string s] w fun e w'=>e=.returned (.bool false)∧w=w':=by
 have HI:Hid (Calls Tryz.prog 131 #[.slice A 0 c,.string s] w fun e w'=>e=.returned (.int .i64 (-1))∧w=w'):=Lib.hid (by
  go_enter Tryz.func131,Tryz.ntmps131
  go_wp2_with fail
  go_loopw [5] (fun i wr=>i=.int .i64 0∧wr=w) (fun _ _=>0)
  case atStart=>exact ⟨rfl,rfl⟩
  case round =>
   obtain ⟨rfl,rfl⟩:=hrel
   go_wp2_with fail
   go_ret
   exact ⟨rfl,rfl⟩)
 go_enter Tryz.func107,Tryz.ntmps107
 go_wp2_with (go_at_call 131;refine (Calls.mono HI.out ?_);rintro e w' ⟨rfl,rfl⟩)
 go_ret
 exact ⟨rfl,rfl⟩
def RtS (w0 w:World):Prop:=Below w0.heap.size w0 w
theorem RtS.drew {w0 w:World}(h:RtS w0 w):RtS w0 w.drew:=Below.drew h
theorem RtS.below {w0 w w':World}(hb:Below w.heap.size w w')(h:RtS w0 w):RtS w0 w':=Below.trans h (hb.mono (Below.size h))
theorem RtS.one {w0 w:World}{b o:Nat}{u:Value}(hlt:b < w0.heap.size)(d:w0.cell? ⟨b,o,none⟩=some u)(h:RtS w0 w):w.cell? ⟨b,o,none⟩=some u∧RtS w0 w:=⟨(Below.cell (p:=⟨b,o,none⟩) h hlt).trans d,h⟩
set_option maxRecDepth 100000 in
set_option maxHeartbeats 2000000 in
theorem distinct_any (P:Nat→Prop)(A:Option Addr)(cp:Nat)(ns:List (List UInt8))(w:World)(h:NamesAt P w A ns)(hl:ns.length≤cp∧cp≤maxLen)(hl9:ns.length≤1000)(hok:∀ x∈ns,okS x) :
  Calls Tryz.prog 108 #[.slice A ns.length cp] w fun e w'=>e=.returned (.int .i64 (nmErr 1 [] ns))∧Below w.heap.size w w':=by
 have HN:=Lib.hid h
 have HOK:=Lib.hid hok
 obtain ⟨n,hn⟩:∃ n,n=ns.length:=⟨_,rfl⟩
 have HL:=Lib.hid hn
 unfold maxLen at hl
 obtain ⟨hl1,hl2⟩:=hl
 rw [← hn] at hl1 hl9 ⊢
 have hl3:n≤2 ^ 63 - 1:=Nat.le_trans hl1 hl2
 obtain ⟨R,hR⟩:∃ R,R=nmErr 1 [] ns:=⟨_,rfl⟩
 have HR:=Lib.hid hR
 rw [← hR]
 clear h hn hR hok
 go_enter Tryz.func108,Tryz.ntmps108
 go_wp2_with fail
 go_loopw [3] (fun i wr=>∃ k:Nat,k≤n∧i=.int .i64 (k:Int)∧Hid (Below w.heap.size w wr)∧Hid (R=nmErr 1 (ns.take k) (ns.drop k))) (fun i _=>n - (intOf i).toNat)
 case atStart=>exact ⟨0,Nat.zero_le _,rfl,Lib.hid (Below.refl _ _),Lib.hid (by rw [HR.out];rfl)⟩
 case round =>
  obtain ⟨k,hk,rfl,hB,hE⟩:=hrel
  have i0:(0:Int)≤(k:Int):=by omega
  by_cases hkl:k < n
  ·have hkl':k < ns.length:=by rw [← HL.out];exact hkl
   obtain ⟨b,off,rfl,hp,hlt,hcc⟩:=HN.out (List.ne_nil_of_length_pos (by omega))
   have c0:wr.cell? ⟨b,off+k,none⟩=some (.string (strB ns[k])):=(Same.of_below hB.out).cell (P:=fun _=>True) trivial hlt (off+k) |>.trans (hcc k _ (List.getElem?_eq_getElem hkl'))
   obtain ⟨y,hy⟩:∃ y,y=ns[k]:=⟨_,rfl⟩
   have HD:Hid (ns.drop k=y :: ns.drop (k+1)):=Lib.hid (by rw [hy];exact List.drop_eq_getElem_cons hkl')
   have HT:Hid (ns.take (k+1)=ns.take k++[y]):=Lib.hid (by rw [List.take_add_one,List.getElem?_eq_getElem hkl',hy];rfl)
   have HH:Hid (∀ wx,Calls Tryz.prog 105 #[.string (strB y)] wx fun e w'=>e=.returned (.bool (isV y))∧Below wx.heap.size wx w'):=Lib.hid (fun wx=>rIsVar_any (strB y) wx (by rw [strB_size,hy];exact HOK.out _ (List.getElem_mem hkl')))
   have HS:Hid (∀ wx,Below w.heap.size w wx→Calls Tryz.prog 107 #[.slice (some ⟨b,off,none⟩) k cp,.string (strB y)] wx fun e w'=>e=.returned (.bool ((ns.take k).contains y))∧wx=w'):=Lib.hid (fun wx hb=>by
    have hlen:(ns.take k).length=k:=by rw [List.length_take];omega
    by_cases hk0:k=0
    ·subst hk0
     have:=Has_nil (some ⟨b,off,none⟩) cp (strB y) wx
     simpa using this
    ·have:=Has_any (some ⟨b,off,none⟩) cp (ns.take k) (strB y) wx ⟨b,off,rfl,Nat.lt_of_lt_of_le hlt hb.size,fun j l hj=>by
      have hjn:ns[j]?=some l:=by rw [List.getElem?_take] at hj;split at hj;exact hj;cases hj
      exact ((Same.of_below hb).cell (P:=fun _=>True) trivial hlt (off+j)).trans (hcc j l hjn)⟩ (by omega)
     rwa [hlen] at this)
   rw [← hy] at c0
   have i1:(k:Int) < (n:Int):=by omega
   have hkc:k≤cp:=by omega
   obtain ⟨q1,hq1⟩:∃ q,q=isV y:=⟨_,rfl⟩
   obtain ⟨q2,hq2⟩:∃ q,q=(ns.take k).contains y:=⟨_,rfl⟩
   rw [← hq1] at HH
   rw [← hq2] at HS
   have HE:Hid (R=if q1=false then 4 else if q2=true then 5 else nmErr 1 (ns.take (k+1)) (ns.drop (k+1))):=Lib.hid (by rw [hE.out,HD.out,nmErr,show nameHas 1 y=isV y from if_pos rfl,← hq1,← hq2,HT.out])
   have HLT:=Lib.hid hlt
   have HC0:Hid (w.cell? ⟨b,off+k,none⟩=some (.string (strB y))):=Lib.hid (by rw [hy];exact hcc k _ (List.getElem?_eq_getElem hkl'))
   clear hcc hp hlt hy hq1 hq2 hE
   cases q1
   ·have HE2:Hid (R=4):=Lib.hid (by rw [HE.out,if_pos rfl])
    go_wp2_with fail
    refine (HH.out _).mono ?_
    rintro e w2 ⟨rfl,hb⟩
    have HB2:=Lib.hid (hB.out.trans (hb.mono hB.out.size))
    clear hb
    go_wp2_with fail
    go_ret
    exact ⟨by rw [HE2.out];rfl,HB2.out⟩
   ·go_wp2_with fail
    refine (HH.out _).mono ?_
    rintro e w2 ⟨rfl,hb⟩
    have HB2:=Lib.hid (hB.out.trans (hb.mono hB.out.size))
    clear hb
    have hs0:RtS w2 w2:=Below.refl _ _
    have c0:w2.cell? ⟨b,off+k,none⟩=some (.string (strB y)):=(Same.of_below HB2.out).cell (P:=fun _=>True) trivial HLT.out (off+k) |>.trans HC0.out
    have HLt2:b < w2.heap.size:=Nat.lt_of_lt_of_le HLT.out HB2.out.size
    go_wp2_with fail
    go_region_held3 (fun w'=>w'.cell? ⟨b,off+k,none⟩=some (.string (strB y))∧RtS w2 w')
     ((refine RtS.one HLt2 c0 ?_;first | assumption | exact RtS.drew hs0))
     (first | (go_at_call 107;refine (HS.out _ (HB2.out.drew)).mono ?_;rintro e w' ⟨rfl,rfl⟩))
    have HB3:=Lib.hid HB2.out.drew
    clear c0 hs0
    cases q2
    ·have HE2:Hid (R=nmErr 1 (ns.take (k+1)) (ns.drop (k+1))):=Lib.hid (by rw [HE.out,if_neg (by simp),if_neg (by simp)])
     go_wp2_with fail
     go_roundw
     case rel=>exact ⟨k+1,by omega,by go_num,HB3,HE2⟩
     case measure=>simp [intOf];omega
    ·have HE2:Hid (R=5):=Lib.hid (by rw [HE.out,if_neg (by simp),if_pos rfl])
     go_wp2_with fail
     go_ret
     exact ⟨by rw [HE2.out];rfl,HB3.out⟩
  ·obtain rfl:k=n:=by omega
   have HE2:Hid (R=0):=Lib.hid (by rw [hE.out,HL.out,List.drop_length,nmErr])
   go_wp2_with fail
   go_ret
   exact ⟨by rw [HE2.out];rfl,hB.out⟩
theorem RtS.two {w0 w:World}{b o:Nat}{u:Value}{b2 o2:Nat}{u2:Value}(hlt:b < w0.heap.size)(d:w0.cell? ⟨b,o,none⟩=some u)(hlt2:b2 < w0.heap.size)(d2:w0.cell? ⟨b2,o2,none⟩=some u2)(h:RtS w0 w):w.cell? ⟨b,o,none⟩=some u∧w.cell? ⟨b2,o2,none⟩=some u2∧RtS w0 w :=
 ⟨(Below.cell (p:=⟨b,o,none⟩) h hlt).trans d,(Below.cell (p:=⟨b2,o2,none⟩) h hlt2).trans d2,h⟩
set_option maxRecDepth 100000 in
set_option maxHeartbeats 2000000 in
theorem names_any (k n:Int)(s t:ByteArray)(A:Option Addr)(c:Nat)(v5 v6:Value)(ns:List (List UInt8))(w:World)(h:NamesAt (fun _=>True) w A ns)(hl:ns.length≤c∧c≤maxLen)(hl9:ns.length≤1000)(hok:∀ x∈ns,okS x)(hk:k=17→0 < ns.length) :
  Calls Tryz.prog 80 #[.agg #[.int .i64 k,.int .i64 n,.string s,.string t,.slice A ns.length c,v5,v6]] w fun e w'=>e=.returned (.int .i64 (nmsErr k ns))∧Below w.heap.size w w':=by
 obtain ⟨W1,hW1⟩:∃ W1,w.alloc (.cells #[.int .i64 k,.int .i64 n,.string s,.string t,.slice A ns.length c,v5,v6] 27)=W1:=⟨_,rfl⟩
 have HB1:Hid (Below w.heap.size w W1):=Lib.hid (by rw [← hW1];exact (Below.refl _ _).alloc (Nat.le_refl _) _)
 have HE1:Hid (EB W1 w.heap.size (.int .i64 k) (.int .i64 n) (.string s) (.string t) (.slice A ns.length c) v5 v6):=Lib.hid (by rw [← hW1];exact EB.new w _ _ _ _ _ _ _)
 have hz:w.heap.size < W1.heap.size:=HE1.out.lt
 have HN:=Lib.hid h
 have HOK:=Lib.hid hok
 have HL:=Lib.hid hl
 have HL9:=Lib.hid hl9
 obtain ⟨R,hR⟩:∃ R,R=nmsErr k ns:=⟨_,rfl⟩
 have HR:=Lib.hid hR
 rw [← hR]
 have e0:=HE1.out.c0
 have e4:=HE1.out.c4
 clear h hok hl hl9 hR
 by_cases h17:k=17
 ·have hpos:=hk h17
  match ns,hpos with
  | x :: ms,_ =>
  obtain ⟨b,off,rfl,_,hlt,hcc⟩:=HN.out (by simp)
  obtain ⟨m,hm⟩:∃ m,m=ms.length:=⟨_,rfl⟩
  have HM:=Lib.hid hm
  have hmn:(x :: ms).length=m+1:=by rw [hm];rfl
  have hmc:m+1≤c:=by rw [← hmn];exact HL.out.1
  have hmx:c≤2 ^ 63 - 1:=HL.out.2
  obtain ⟨r1,hr1⟩:∃ r,r=nmErr 1 [] [x]:=⟨_,rfl⟩
  have HD:Hid (Calls Tryz.prog 108 #[.slice (some ⟨b,off,none⟩) 1 c] W1 fun e w'=>e=.returned (.int .i64 r1)∧Below W1.heap.size W1 w'):=Lib.hid (by
   rw [hr1]
   exact distinct_any (fun _=>True) (some ⟨b,off,none⟩) c [x] W1 ((HN.out.take 1).keep (Same.of_below HB1.out)) ⟨by show 1≤c;omega,HL.out.2⟩ (by simp) fun y hy=>HOK.out y (by simp at hy;simp [hy]))
  have HRR:Hid (R=if r1=0 then nmErr 2 [] ms else r1):=Lib.hid (by rw [HR.out,hr1];unfold nmsErr;rw [if_pos h17];rfl)
  rw [hmn] at hW1 e4 HE1 ⊢
  clear hk hr1 HR hm hmn
  subst h17
  go_enter Tryz.func80,Tryz.ntmps80
  go_wp2_with fail
  clear hW1
  refine HD.out.mono ?_
  rintro e w2 ⟨rfl,hb⟩
  have HB2:=Lib.hid (HB1.out.trans (hb.mono HB1.out.size))
  have HE2:=Lib.hid (HE1.out.kept (grown_below hb none) (by simp))
  clear hb e0 e4
  have e0:=HE2.out.c0
  have e4:=HE2.out.c4
  by_cases hr0:r1=0
  ·have HR2:Hid (R=nmErr 2 [] ms):=Lib.hid (by rw [HRR.out,if_pos hr0])
   subst hr0
   clear HRR HD
   go_wp2_with fail
   go_loopw [4] (fun i wr=>∃ ii k:Nat,ii=1+k∧k≤m∧i=.int .i64 (ii:Int)∧Hid (Below w2.heap.size w2 wr)∧Hid (R=nmErr 2 (ms.take k) (ms.drop k))) (fun i _=>m+1 - (intOf i).toNat)
   case atStart=>exact ⟨1,0,rfl,Nat.zero_le _,rfl,Lib.hid (Below.refl _ _),Lib.hid (by rw [HR2.out];rfl)⟩
   case round =>
    obtain ⟨ii,k,hii,hk,rfl,hB,hE⟩:=hrel
    have HBr:=Lib.hid (HB2.out.trans (hB.out.mono HB2.out.size))
    have HEr:=Lib.hid (HE2.out.kept (grown_below hB.out none) (by simp))
    clear e0 e4
    have e0:=HEr.out.c0
    have e4:=HEr.out.c4
    have hk9:k≤1000:=by have:=HL9.out;rw [List.length_cons,← HM.out] at this;omega
    by_cases hkl:k < m
    ·have hkl':k < ms.length:=by rw [← HM.out];exact hkl
     obtain ⟨y,hy⟩:∃ y,y=ms[k]:=⟨_,rfl⟩
     have HD:Hid (ms.drop k=y :: ms.drop (k+1)):=Lib.hid (by rw [hy];exact List.drop_eq_getElem_cons hkl')
     have HT:Hid (ms.take (k+1)=ms.take k++[y]):=Lib.hid (by rw [List.take_add_one,List.getElem?_eq_getElem hkl',hy];rfl)
     have HC0:Hid (∀ wx,Below w.heap.size w wx→wx.cell? ⟨b,off+ii,none⟩=some (.string (strB y))):=Lib.hid (fun wx hb=>((Same.of_below hb).cell (P:=fun _=>True) trivial hlt (off+ii)).trans (hcc ii y (by rw [hii,Nat.add_comm 1 k,List.getElem?_cons_succ,hy];exact List.getElem?_eq_getElem hkl')))
     have HY:okS y:=HOK.out y (by rw [hy];exact List.mem_cons_of_mem _ (List.getElem_mem hkl'))
     have HH:Hid (∀ wx,Calls Tryz.prog 106 #[.string (strB y)] wx fun e w'=>e=.returned (.bool (isNm 2 y))∧wx=w'):=Lib.hid (fun wx=>rIsUpper_any (strB y) wx (by rw [strB_size];exact HY))
     have HS:Hid (∀ wx,Below w.heap.size w wx→Calls Tryz.prog 107 #[.slice (some ⟨b,off+1,none⟩) (ii - 1) (c - 1),.string (strB y)] wx fun e w'=>e=.returned (.bool ((ms.take k).contains y))∧wx=w'):=Lib.hid (fun wx hb=>by
      have hlen:(ms.take k).length=k:=by rw [List.length_take];omega
      rw [show ii - 1=k by omega]
      by_cases hk0:k=0
      ·subst hk0
       have:=Has_nil (some ⟨b,off+1,none⟩) (c - 1) (strB y) wx
       simpa using this
      ·have:=Has_any (some ⟨b,off+1,none⟩) (c - 1) (ms.take k) (strB y) wx ⟨b,off+1,rfl,Nat.lt_of_lt_of_le hlt hb.size,fun j l hj=>by
        have hjn:ms[j]?=some l:=by rw [List.getElem?_take] at hj;split at hj;exact hj;cases hj
        have:=((Same.of_below hb).cell (P:=fun _=>True) trivial hlt (off+(j+1))).trans (hcc (j+1) l (by rw [List.getElem?_cons_succ];exact hjn))
        rwa [show off+1+j=off+(j+1) by omega]⟩ (by omega)
       rwa [hlen] at this)
     have hlr:b < wr.heap.size:=Nat.lt_of_lt_of_le hlt HBr.out.size
     have hgr:w.heap.size < wr.heap.size:=HEr.out.lt
     have c0:=HC0.out wr HBr.out
     have i1:(ii:Int) < ((m+1:Nat):Int):=by omega
     have i2:(0:Int)≤(ii:Int):=by omega
     have i3:(1:Int)≤(ii:Int):=by omega
     have i4:ii < m+1:=by omega
     have i5:ii≤c:=by omega
     have i6:(ii:Int)≤(c:Int):=by omega
     have i7:(ii:Int)≤((m+1:Nat):Int):=by omega
     have i8:1≤ii:=by omega
     have i9:ii≤m+1:=by omega
     have i10:¬ c=1:=by omega
     have HIi:=Lib.hid hii
     obtain ⟨q1,hq1⟩:∃ q,q=isNm 2 y:=⟨_,rfl⟩
     obtain ⟨q2,hq2⟩:∃ q,q=(ms.take k).contains y:=⟨_,rfl⟩
     rw [← hq1] at HH
     rw [← hq2] at HS
     have HE:Hid (R=if q1=false then 4 else if q2=true then 5 else nmErr 2 (ms.take (k+1)) (ms.drop (k+1))):=Lib.hid (by rw [hE.out,HD.out,nmErr,show nameHas 2 y=isNm 2 y from rfl,← hq1,← hq2,HT.out])
     clear hy hq1 hq2 hE hii
     cases q1
     ·have HE2:Hid (R=4):=Lib.hid (by rw [HE.out,if_pos rfl])
      go_wp2_with fail
      refine (HH.out _).mono ?_
      rintro e w3 ⟨rfl,rfl⟩
      go_wp2_with fail
      go_ret
      exact ⟨by rw [HE2.out];rfl,HBr.out⟩
     ·go_wp2_with fail
      refine (HH.out _).mono ?_
      rintro e w3 ⟨rfl,rfl⟩
      have hs0:RtS wr wr:=Below.refl _ _
      go_wp2_with fail
      go_region_held3 (fun w'=>w'.cell? ⟨w.heap.size,4,none⟩=some (.slice (some ⟨b,off,none⟩) (m+1) c)∧w'.cell? ⟨b,off+ii,none⟩=some (.string (strB y))∧RtS wr w')
       ((refine RtS.two hgr e4 hlr c0 ?_;first | assumption | exact RtS.drew hs0))
       (first | (go_at_call 107;refine (HS.out _ (HBr.out.drew)).mono ?_;rintro e w' ⟨rfl,rfl⟩))
      have HB3:=Lib.hid hB.out.drew
      have HB4:=Lib.hid HBr.out.drew
      clear c0 hs0 e0 e4
      cases q2
      ·have HE2:Hid (R=nmErr 2 (ms.take (k+1)) (ms.drop (k+1))):=Lib.hid (by rw [HE.out,if_neg (by simp),if_neg (by simp)])
       go_wp2_with fail
       go_roundw
       case rel=>exact ⟨ii+1,k+1,by have:=HIi.out;omega,by omega,by go_num,HB3,HE2⟩
       case measure=>simp [intOf];omega
      ·have HE2:Hid (R=5):=Lib.hid (by rw [HE.out,if_neg (by simp),if_pos rfl])
       go_wp2_with fail
       go_ret
       exact ⟨by rw [HE2.out];rfl,HB4.out⟩
    ·obtain rfl:k=m:=by omega
     have HE2:Hid (R=0):=Lib.hid (by rw [hE.out,HM.out,List.drop_length,nmErr])
     have i1:¬ (ii:Int) < ((k+1:Nat):Int):=by omega
     go_wp2_with fail
     go_ret
     exact ⟨by rw [HE2.out];rfl,HBr.out⟩
  ·have HR2:Hid (R=r1):=Lib.hid (by rw [HRR.out,if_neg hr0])
   have hrb:(r1 == 0)=false:=beq_eq_false_iff_ne.2 hr0
   clear HRR HD hr0
   go_wp2_with fail
   go_ret
   exact ⟨by rw [HR2.out];rfl,HB2.out⟩
 ·have HRR:Hid (R=nmErr 1 [] ns):=Lib.hid (by rw [HR.out];unfold nmsErr;rw [if_neg h17])
  have HD:=Lib.hid (distinct_any (fun _=>True) A c ns W1 (HN.out.keep (Same.of_below HB1.out)) HL.out HL9.out HOK.out)
  rw [← HRR.out] at HD
  have hkb:(k == 17)=false:=beq_eq_false_iff_ne.2 h17
  obtain ⟨nl,hnl⟩:∃ q,q=ns.length:=⟨_,rfl⟩
  rw [← hnl] at hW1 e4 HE1 HD ⊢
  clear hk hnl h17
  go_enter Tryz.func80,Tryz.ntmps80
  go_wp2_with fail
  clear hW1
  refine HD.out.mono ?_
  rintro e w' ⟨rfl,hb⟩
  have HB2:=Lib.hid (HB1.out.trans (hb.mono HB1.out.size))
  clear hb
  go_wp2_with fail
  go_ret
  exact ⟨rfl,HB2.out⟩
set_option maxRecDepth 100000 in
set_option maxHeartbeats 8000000 in
theorem armsM_any (n0:Int)(s t:ByteArray)(v4 v5:Value)(A:Option Addr)(c:Nat)(ops:Hds)(w:World)(h:ArmsHd w A ops)(hl:ops.length≤c∧c≤maxLen)(hl9:∀ o∈ops,o.2.length≤1000) :
  Calls Tryz.prog 81 #[.agg #[.int .i64 11,.int .i64 n0,.string s,.string t,v4,v5,.slice A ops.length c]] w fun e w'=>e=.returned (.int .i64 (armsErr 1 [] ops))∧Below w.heap.size w w':=by
 have HN:=Lib.hid h
 have HL9:=Lib.hid hl9
 obtain ⟨n,hn⟩:∃ n,n=ops.length:=⟨_,rfl⟩
 have HL:=Lib.hid hn
 unfold maxLen at hl
 obtain ⟨hl1,hl2⟩:=hl
 rw [← hn] at hl1 ⊢
 have hl3:n≤2 ^ 63 - 1:=Nat.le_trans hl1 hl2
 obtain ⟨a,ha⟩:∃ a:Int,a=1:=⟨_,rfl⟩
 have HA2:=Lib.hid ha
 obtain ⟨R,hR⟩:∃ R,R=armsErr 1 [] ops:=⟨_,rfl⟩
 have HR:Hid (R=armsErr a [] ops):=Lib.hid (by rw [hR,ha])
 rw [← hR]
 obtain ⟨W1,hW1⟩:∃ W1,w.alloc (.cells #[.int .i64 11,.int .i64 n0,.string s,.string t,v4,v5,.slice A n c] 27)=W1:=⟨_,rfl⟩
 have HB1:Hid (Below w.heap.size w W1):=Lib.hid (by rw [← hW1];exact (Below.refl w.heap.size w).alloc (Nat.le_refl _) _)
 have HE1:Hid (EB W1 w.heap.size (.int .i64 11) (.int .i64 n0) (.string s) (.string t) v4 v5 (.slice A n c)):=Lib.hid (by rw [← hW1];exact EB.new w _ _ _ _ _ _ _)
 have hz:w.heap.size < W1.heap.size:=HE1.out.lt
 have HA:Hid (∀ wr,Below W1.heap.size W1 wr→ArmsHd wr A ops):=Lib.hid (fun wr hb=>(HN.out.below HB1.out).below hb)
 have e0:=HE1.out.c0
 have e6:=HE1.out.c6
 clear h hl9 hn hR ha
 go_enter Tryz.func81,Tryz.ntmps81
 go_wp2_with fail
 clear hW1
 go_loopg [4] n (fun g i wr=>∃ kk:Nat,Hid (kk+g=n)∧i=.int .i64 (kk:Int)∧Hid (Below W1.heap.size W1 wr)∧Hid (R=armsErr a (ops.take kk) (ops.drop kk)))
 case atStart=>exact ⟨0,Lib.hid (by omega),rfl,Lib.hid (Below.refl _ _),Lib.hid (by rw [HR.out];rfl)⟩
 case round =>
  obtain ⟨kk,HG,rfl,hB,hE⟩:=hrel
  have hk:kk≤n:=by have:=HG.out;omega
  have i0:(0:Int)≤(kk:Int):=by omega
  have HEr:=Lib.hid (HE1.out.kept (grown_below hB.out none) (by simp))
  clear e0 e6
  have e0:=HEr.out.c0
  have e6:=HEr.out.c6
  have hzr:w.heap.size < wr.heap.size:=HEr.out.lt
  by_cases hkl:kk < n
  ·have hkl':kk < ops.length:=by rw [← HL.out];exact hkl
   obtain ⟨b,off,rfl,hlt,hcc⟩:=HA.out wr hB.out (List.ne_nil_of_length_pos (by omega))
   obtain ⟨ok1,ok2,An,cn,k0,m0,s0,t0,B0,y0,z0,B1,y1,z1,B2,y2,z2,hn1,hn2,hnm,a0,a1,a2,a3,a4,a5,a6,a7,a8⟩:=hcc kk _ (List.getElem?_eq_getElem hkl')
   obtain ⟨o,ho⟩:∃ o,o=ops[kk]:=⟨_,rfl⟩
   rw [← ho] at ok1 ok2 hn1 hnm a0 a1
   have hm9:o.2.length≤1000:=HL9.out o (by rw [ho];exact List.getElem_mem hkl')
   obtain ⟨S,hS⟩:∃ S,S=strB o.1:=⟨_,rfl⟩
   obtain ⟨m,hm⟩:∃ m,m=o.2.length:=⟨_,rfl⟩
   rw [← hS] at a0
   rw [← hm] at a1
   have i1:(kk:Int) < (n:Int):=by omega
   have HO:=Lib.hid ho
   have HS:=Lib.hid hS
   have HM:=Lib.hid hm
   have HD:Hid (ops.drop kk=o :: ops.drop (kk+1)):=Lib.hid (by rw [ho];exact List.drop_eq_getElem_cons hkl')
   have HT:Hid (ops.take (kk+1)=ops.take kk++[o]):=Lib.hid (by rw [List.take_add_one,List.getElem?_eq_getElem hkl',ho];rfl)
   have HF:Hid ((ops.take kk).isEmpty=((kk:Int) == 0)):=Lib.hid (by
    by_cases h0:kk=0
    ·subst h0;rfl
    ·rw [show ((kk:Int) == 0)=false by simp;omega,List.isEmpty_eq_false_iff]
     intro e
     have:=congrArg List.length e
     rw [List.length_take,List.length_nil] at this
     omega)
   obtain ⟨qu,hqu⟩:∃ q,q=isNm 2 o.1:=⟨_,rfl⟩
   obtain ⟨qv,hqv⟩:∃ q,q=isV o.1:=⟨_,rfl⟩
   obtain ⟨qr,hqr⟩:∃ q,q=(o.1 == retW):=⟨_,rfl⟩
   have HQr:=Lib.hid hqr
   have HU:Hid (∀ wx,Calls Tryz.prog 79 #[.string S,.int .i64 2] wx fun e w'=>e=.returned (.bool qu)∧Below wx.heap.size wx w'):=Lib.hid (fun wx=>by rw [hS,hqu];exact class_any o.1 2 wx ok1)
   have HV:Hid (∀ wx,Calls Tryz.prog 79 #[.string S,.int .i64 1] wx fun e w'=>e=.returned (.bool qv)∧Below wx.heap.size wx w'):=Lib.hid (fun wx=>by rw [hS,hqv];exact class_any o.1 1 wx ok1)
   have hrs:(S.toList == [114,101,116,117,114,110])=qr:=by rw [hS,ByteArray.toList_eq,data_strB,hqr];rfl
   have HY:=Lib.hid (fun wx (hb:Below wr.heap.size wr wx)=>distinct_any (fun _=>True) An cn o.2 wx (hnm.keep (Same.of_below hb)) ⟨hn1,hn2⟩ hm9 ok2)
   have HE:Hid (R=if armErr a qu qv o.1 m ((kk:Int) == 0)=0 then (if nmErr 1 [] o.2=0 then (if ((ops.take kk).map (·.1)).contains o.1=true then 5 else armsErr a (ops.take (kk+1)) (ops.drop (kk+1))) else nmErr 1 [] o.2) else armErr a qu qv o.1 m ((kk:Int) == 0)):=Lib.hid (by rw [hE.out,HD.out,armsErr,HF.out,HT.out,hqu,hqv,hm];rfl)
   obtain ⟨E2,hE2⟩:∃ E2,E2=nmErr 1 [] o.2:=⟨_,rfl⟩
   rw [← hE2] at HE HY
   rw [← hm] at HY
   obtain ⟨W2,hW2⟩:∃ W2,wr.alloc (.cells #[.string S,.slice An m cn,.int .i64 k0,.int .i64 m0,.string s0,.string t0,.slice B0 y0 z0,.slice B1 y1 z1,.slice B2 y2 z2] 57)=W2:=⟨_,rfl⟩
   have HB2:Hid (Below wr.heap.size wr W2):=Lib.hid (by rw [← hW2];exact (Below.refl _ _).alloc (Nat.le_refl _) _)
   have hg:wr.heap.size < W2.heap.size:=by rw [← hW2];simp
   have HK:Hid (∀ w',Below W2.heap.size W2 w'→w'.cell? ⟨wr.heap.size,0,none⟩=some (.string S)∧w'.cell? ⟨wr.heap.size,1,none⟩=some (.slice An m cn)∧EB w' w.heap.size (.int .i64 11) (.int .i64 n0) (.string s) (.string t) v4 v5 (.slice (some ⟨b,off,none⟩) n c)∧Below wr.heap.size wr w'):=Lib.hid (fun w' hb=>by
    have hbl:=hW2 ▸ heap_alloc_new wr (.cells #[.string S,.slice An m cn,.int .i64 k0,.int .i64 m0,.string s0,.string t0,.slice B0 y0 z0,.slice B1 y1 z1,.slice B2 y2 z2] 57)
    have hbl2:=(hb.block _ hg).trans hbl
    exact ⟨cell_of_row _ _ 0 _ _ (0,0) hbl2,cell_of_row _ _ 1 _ _ (0,0) hbl2,(HEr.out.kept (grown_below HB2.out none) (by simp)).kept (grown_below hb none) (by simp),HB2.out.trans (hb.mono HB2.out.size)⟩)
   have f0:=(HK.out W2 (Below.refl _ _)).1
   have f1:=(HK.out W2 (Below.refl _ _)).2.1
   have HE3:=Lib.hid (HK.out W2 (Below.refl _ _)).2.2.1
   clear ho hS hm hqu hqv hqr hE2 hE hnm ok1 ok2 hn1
   have g0:=HE3.out.c0
   have g6:=HE3.out.c6
   have ha1:=HA2.out
   by_cases h4:m≤4
   ·have i4:(m:Int)≤4:=by omega
    have i4b:decide ((m:Int) > 4)=false:=decide_eq_false (by omega)
    have Ha1:=Lib.hid ha1
    clear ha1
    cases qu
    ·have HAE:armErr a false qv o.1 m ((kk:Int) == 0)=4:=by unfold armErr;rw [if_pos Ha1.out,if_neg (by simp [i4]),if_pos rfl]
     have HRm:Hid (R=4):=Lib.hid (by rw [HE.out,if_neg (by rw [HAE];decide),HAE])
     clear HAE
     go_wp2_with fail
     refine (HU.out W2).mono ?_
     rintro e wu ⟨rfl,hbu⟩
     have HX:=Lib.hid (show Below W2.heap.size W2 wu from hbu)
     obtain ⟨f0,f1,hEx,hBx⟩:=HK.out _ HX.out
     have g0:=hEx.c0
     have g6:=hEx.c6
     clear hbu hBx hEx
     go_wp2_with fail
     go_ret
     exact ⟨by rw [HRm.out];rfl,HB1.out.trans ((hB.out.trans ((HK.out _ (HX.out)).2.2.2.mono hB.out.size)).mono HB1.out.size)⟩
    ·have HOK:Hid (armErr a true qv o.1 m ((kk:Int) == 0)=0):=Lib.hid (by unfold armErr;rw [if_pos Ha1.out,if_neg (by simp [i4]),if_neg (by simp)])
     go_wp2_with fail
     refine (HU.out W2).mono ?_
     rintro e wu ⟨rfl,hbu⟩
     have HX:=Lib.hid (show Below W2.heap.size W2 wu from hbu)
     clear hbu f0 f1 g0 g6
     obtain ⟨f0,f1,hEx,hBx⟩:=HK.out _ HX.out
     have HBx:=Lib.hid hBx
     have HR3:Hid (R=if E2=0 then (if ((ops.take kk).map (·.1)).contains o.1=true then 5 else armsErr a (ops.take (kk+1)) (ops.drop (kk+1))) else E2):=Lib.hid (by rw [HE.out,if_pos HOK.out])
     have g0:=hEx.c0
     have g6:=hEx.c6
     clear hBx hEx
     go_wp2_with fail
     refine (HY.out _ HBx.out).mono ?_
     rintro e wy ⟨rfl,hby⟩
     have HY2:=Lib.hid (HX.out.trans (hby.mono HX.out.size))
     clear hby f0 f1 g0 g6
     by_cases he2:E2=0
     ·have HR4:Hid (R=if ((ops.take kk).map (·.1)).contains o.1=true then 5 else armsErr a (ops.take (kk+1)) (ops.drop (kk+1))):=Lib.hid (by rw [HR3.out,if_pos he2])
      subst he2
      clear HR3
      go_wp2_with fail
      go_loopw [8] (fun i wz=>∃ jj:Nat,jj≤kk∧i=.int .i64 (jj:Int)∧Hid (Below W2.heap.size W2 wz)∧Hid (R=if (((ops.take kk).drop jj).map (·.1)).contains o.1=true then 5 else armsErr a (ops.take (kk+1)) (ops.drop (kk+1)))) (fun i _=>kk - (intOf i).toNat)
      case atStart=>exact ⟨0,Nat.zero_le _,rfl,HY2,Lib.hid (by rw [HR4.out,List.drop_zero])⟩
      case round =>
       obtain ⟨jj,hj,rfl,hZ,hRj⟩:=hrel
       obtain ⟨f0,f1,hEx,hBx⟩:=HK.out _ hZ.out
       have HBx:=Lib.hid hBx
       have g0:=hEx.c0
       have g6:=hEx.c6
       have j0:(0:Int)≤(jj:Int):=by omega
       clear hBx hEx
       by_cases hjl:jj < kk
       ·have hjn:jj < ops.length:=by omega
        have j1:(jj:Int) < (kk:Int):=by omega
        have j2:(jj:Int) < (n:Int):=by omega
        obtain ⟨_,_,_,_,_,_,_,_,_,_,_,_,_,_,_,_,_,_,_,_,d0,_⟩:=hcc jj _ (List.getElem?_eq_getElem hjn)
        have d0:=(Below.cell (p:=⟨b,off+jj*9,none⟩) HBx.out hlt).trans d0
        obtain ⟨S2,hS2⟩:∃ S2,S2=strB (ops[jj]).1:=⟨_,rfl⟩
        obtain ⟨q5,hq5⟩:∃ q,q=((ops[jj]).1 == o.1):=⟨_,rfl⟩
        have hcmp:(S2.toList == S.toList)=q5:=by rw [hS2,HS.out,ByteArray.toList_eq,ByteArray.toList_eq,data_strB,data_strB,hq5]
        have HRk:Hid (R=if q5=true then 5 else if (((ops.take kk).drop (jj+1)).map (·.1)).contains o.1=true then 5 else armsErr a (ops.take (kk+1)) (ops.drop (kk+1))):=Lib.hid (by
         have hlt':jj < (ops.take kk).length:=by rw [List.length_take];omega
         rw [hRj.out,List.drop_eq_getElem_cons hlt',List.map_cons,List.contains_cons,List.getElem_take,hq5]
         by_cases hh:(ops[jj]).1=o.1
         ·simp [hh]
         ·have h2:¬ o.1=(ops[jj]).1:=fun e=>hh e.symm
          simp [hh,h2])
        rw [← hS2] at d0
        clear hRj hS2 hq5
        cases q5
        ·have HRm:Hid (R=if (((ops.take kk).drop (jj+1)).map (·.1)).contains o.1=true then 5 else armsErr a (ops.take (kk+1)) (ops.drop (kk+1))):=Lib.hid (by rw [HRk.out,if_neg (by simp)])
         clear HRk
         go_wp2_with fail
         go_region
         all_goals (
          go_wp2_with fail
          go_roundw
          case rel=>exact ⟨jj+1,by omega,by go_num,Lib.hid hZ.out.drew,HRm⟩
          case measure=>simp [intOf];omega)
        ·have HRm:Hid (R=5):=Lib.hid (by rw [HRk.out,if_pos rfl])
         clear HRk
         go_wp2_with fail
         go_region
         all_goals (
          go_wp2_with fail
          go_ret
          exact ⟨by rw [HRm.out];rfl,HB1.out.trans ((hB.out.trans (HBx.out.drew.mono hB.out.size)).mono HB1.out.size)⟩)
       ·obtain rfl:jj=kk:=by omega
        have HRn:Hid (R=armsErr a (ops.take (jj+1)) (ops.drop (jj+1))):=Lib.hid (by
         have:(ops.take jj).drop jj=[]:=List.drop_eq_nil_iff.2 (by rw [List.length_take];omega)
         rw [hRj.out,this];simp)
        go_wp2_with fail
        go_roundg (n - (jj+1))
        case rel=>exact ⟨jj+1,Lib.hid (by omega),by go_num,Lib.hid (hB.out.trans (HBx.out.mono hB.out.size)),HRn⟩
        case measure=>have:=HG.out;omega
     ·have HR4:Hid (R=E2):=Lib.hid (by rw [HR3.out,if_neg he2])
      have hb2:(E2 == 0)=false:=beq_eq_false_iff_ne.2 he2
      clear he2 HR3
      go_wp2_with fail
      go_ret
      exact ⟨by rw [HR4.out];rfl,HB1.out.trans ((hB.out.trans ((HK.out _ HY2.out).2.2.2.mono hB.out.size)).mono HB1.out.size)⟩
   ·have i4:¬ (m:Int)≤4:=by omega
    have i4b:decide ((m:Int) > 4)=true:=decide_eq_true (by omega)
    have i4c:(4:Int) < (m:Int):=by omega
    have HAE:armErr a qu qv o.1 m ((kk:Int) == 0)=7:=by unfold armErr;rw [if_pos ha1,if_pos (by simp [i4])]
    have HRm:Hid (R=7):=Lib.hid (by rw [HE.out,if_neg (by rw [HAE];decide),HAE])
    clear HAE ha1
    go_wp2_with fail
    go_ret
    exact ⟨by rw [HRm.out];rfl,HB1.out.trans ((hB.out.trans ((HK.out _ (Below.refl _ _)).2.2.2.mono hB.out.size)).mono HB1.out.size)⟩
  ·obtain rfl:kk=n:=by omega
   have HRm:Hid (R=0):=Lib.hid (by
    rw [hE.out,List.drop_eq_nil_iff.2 (by rw [HL.out];exact Nat.le_refl _),armsErr,if_neg (by rw [HA2.out];simp)])
   go_wp2_with fail
   go_ret
   exact ⟨by rw [HRm.out];rfl,HB1.out.trans (hB.out.mono HB1.out.size)⟩
end Go.Proofs.YtpjabnemkmdobaaGreatDoor
