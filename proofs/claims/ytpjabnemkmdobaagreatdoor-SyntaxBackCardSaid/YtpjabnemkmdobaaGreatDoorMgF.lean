/- Texts put together by program: PrU PrV PrW PrX RefA Num PrY EnvE LkA RParts ParsS ParsN ParsB RPartsW PtMath. -/
import Derived.Test.YtpjabnemkmdobaaGreatDoorMgD
import Derived.Test.YtpjabnemkmdobaaGreatDoorMgE
import Derived.Test.YtpjabnemkmdobaaGreatDoorMgA
import Derived.Lib.ItoaLen
import Derived.Lib.UnsafeStr
import Derived.Test.YtpjabnemkmdobaaGreatDoorMgB
import Derived.Laws.AppendOwnNone
namespace Go.Proofs.YtpjabnemkmdobaaGreatDoor
open Go.RowKit
section
variable {B p x m:Nat} {lim:Int} {w W1 w':World} {g:Nat} {v0 v1 v2 v3 v4 v5 v6:Value}
theorem OpS.all1 {b o:Nat}{u0:Value}(hb:b < B)(hlt:b < W1.heap.size)(d0:W1.cell? ⟨b,o,none⟩=some u0)(h:OpS B p x m lim w W1 g v0 v1 v2 v3 v4 v5 v6 w') :
  w'.cell? ⟨b,o,none⟩=some u0 ∧
   w'.cell? ⟨x,0,none⟩=some (.pointer (some ⟨p,0,none⟩))∧w'.cell? ⟨g,0,none⟩=some v0∧w'.cell? ⟨g,1,none⟩=some v1∧w'.cell? ⟨g,2,none⟩=some v2∧w'.cell? ⟨g,3,none⟩=some v3∧w'.cell? ⟨g,4,none⟩=some v4∧w'.cell? ⟨g,5,none⟩=some v5∧w'.cell? ⟨g,6,none⟩=some v6∧OpS B p x m lim w W1 g v0 v1 v2 v3 v4 v5 v6 w' :=
 ⟨h.part hb hlt d0,h.cells⟩
end
theorem name0 {B:Nat}{w:World}{A:Option Addr}{x:Txt}{r:List Txt}(h:NamesAt (fun b=>b < B) w A (x :: r)):∃ b off,A=some ⟨b,off,none⟩∧b < B∧b < w.heap.size∧w.cell? ⟨b,off,none⟩=some (.string (strB x)):=by
 obtain ⟨b,off,e,hb,hlt,hc⟩:=h (by simp)
 exact ⟨b,off,e,hb,hlt,hc 0 x rfl⟩
set_option maxRecDepth 100000 in
set_option maxHeartbeats 4000000 in
theorem rule_named (n:Int)(s t:Txt)(nm:Txt)(nr:List Txt)(l:List Ex)(ops:List (Txt × List Txt))(bs2:List Ex)(hS:∀ e∈l,ExprSays e)(hln:1≤l.length)(hb:∀ e∈bs2,ExprSays e):RuleSays (.mk 15 n s t (nm :: nr) l ops bs2):=by
 intro B p x m lim bs cs w hP hre hlen
 have HRE:=Lib.hid hre
 obtain ⟨An,cn,Al,cl,Aa,ca,rfl,hf,hn,hl,ha,ho⟩:=hre
 show Calls Tryz.prog 48 #[.agg #[.int .i64 15,.int .i64 n,.string (strB s),.string (strB t),.slice An (nm :: nr).length cn,.slice Al l.length cl,.slice Aa bs2.length ca],.pointer (some ⟨x,0,none⟩)] w _
 obtain ⟨W1,hW1⟩:∃ W1,w.alloc (.cells #[.int .i64 15,.int .i64 n,.string (strB s),.string (strB t),.slice An (nm :: nr).length cn,.slice Al l.length cl,.slice Aa bs2.length ca] 27)=W1:=⟨_,rfl⟩
 have HF1:Hid (PrF B p x m lim bs w W1):=Lib.hid (by rw [← hW1];exact (PrF.refl hP).below ((Below.refl _ _).alloc (Nat.le_refl _) _))
 have HE1:Hid (EB W1 w.heap.size (.int .i64 15) (.int .i64 n) (.string (strB s)) (.string (strB t)) (.slice An (nm :: nr).length cn) (.slice Al l.length cl) (.slice Aa bs2.length ca)):=Lib.hid (by rw [← hW1];exact EB.new w _ _ _ _ _ _ _)
 have e0:=HE1.out.c0
 have e1:=HE1.out.c1
 have e2:=HE1.out.c2
 have e3:=HE1.out.c3
 have e4:=HE1.out.c4
 have e5:=HE1.out.c5
 have e6:=HE1.out.c6
 have hx1:=HF1.out.1.cx
 have hgp:w.heap.size≠p:=by have:=hP.ltp;omega
 have hpcs:pcs (.mk 15 n s t (nm :: nr) l ops bs2)=bracedP [[110,97,109,101,100,32],nm,[32],s] (nth (l.map Ex.lp) 0) ops (bs2.map Ex.lp):=by rw [pcs_mk];rfl
 rw [hpcs] at hlen
 obtain ⟨psx,hpsx⟩:∃ q,q=pcs (.mk 15 n s t (nm :: nr) l ops bs2):=⟨_,rfl⟩
 have HQ:Hid (psx=bracedP [[110,97,109,101,100,32],nm,[32],s] (nth (l.map Ex.lp) 0) ops (bs2.map Ex.lp)):=Lib.hid (by rw [hpsx,hpcs])
 rw [← hpsx]
 obtain ⟨bn,on,rfl,hb2,hlt0,hc0⟩:=name0 hn
 have hb1:bn < W1.heap.size:=Nat.lt_of_lt_of_le hlt0 HF1.out.2.2.2
 have d0:W1.cell? ⟨bn,on,none⟩=some (.string (strB nm)):=(HF1.out.2.same.cell (P:=fun b=>b < B) hb2 hlt0 on).trans hc0
 have HA:Hid (PrF B p x m lim bs w (W1.drew.alloc (.cells ([[110,97,109,101,100,32],nm,[32],s].map fun s=>Value.string (strB s)).toArray 9))):=Lib.hid (HF1.out.drew.below ((Below.refl _ _).alloc (Nat.le_refl _) _))
 have HX:=Lib.hid (braced_any B p x m lim bs (.int .i64 15) (.int .i64 n) (.string (strB s)) (.string (strB t)) (.slice (some ⟨bn,on,none⟩) (nm :: nr).length cn) Al cl Aa ca W1.drew.heap.size [[110,97,109,101,100,32],nm,[32],s] l ops bs2 (W1.drew.alloc (.cells ([[110,97,109,101,100,32],nm,[32],s].map fun s=>Value.string (strB s)).toArray 9)) HA.out.1 hS hb ((parts_of hl).fr HA.out.2) hln ((arms_of ha).fr HA.out.2) ho (Nat.le_trans hf.hca.1 hf.hca.2) (heap_alloc_new W1.drew _) (by simp) hlen)
 have i0:(0:Int) < ((nm :: nr).length:Int):=by simp
 have i0n:0 < (nm :: nr).length:=by simp
 obtain ⟨mn,hmn⟩:∃ q,q=(nm :: nr).length:=⟨_,rfl⟩
 rw [← hmn] at HE1 hW1 e4 i0 i0n HX ⊢
 clear hf hn hl ha ho hpcs hpsx hS hln hlen hP hb hmn hc0 hlt0
 go_enter Tryz.func48,Tryz.ntmps48
 go_wp2_with fail
 clear hW1
 have hX:OpS B p x m lim w W1 w.heap.size (.int .i64 15) (.int .i64 n) (.string (strB s)) (.string (strB t)) (.slice (some ⟨bn,on,none⟩) mn cn) (.slice Al l.length cl) (.slice Aa bs2.length ca) W1:=OpS.mk HF1.out HE1.out
 go_region_held3 (fun w'=>w'.cell? ⟨bn,on,none⟩=some (.string (strB nm))∧w'.cell? ⟨x,0,none⟩=some (.pointer (some ⟨p,0,none⟩))∧w'.cell? ⟨w.heap.size,0,none⟩=some (.int .i64 15)∧w'.cell? ⟨w.heap.size,1,none⟩=some (.int .i64 n)∧w'.cell? ⟨w.heap.size,2,none⟩=some (.string (strB s))∧w'.cell? ⟨w.heap.size,3,none⟩=some (.string (strB t))∧w'.cell? ⟨w.heap.size,4,none⟩=some (.slice (some ⟨bn,on,none⟩) mn cn)∧w'.cell? ⟨w.heap.size,5,none⟩=some (.slice Al l.length cl)∧w'.cell? ⟨w.heap.size,6,none⟩=some (.slice Aa bs2.length ca)∧OpS B p x m lim w W1 w.heap.size (.int .i64 15) (.int .i64 n) (.string (strB s)) (.string (strB t)) (.slice (some ⟨bn,on,none⟩) mn cn) (.slice Al l.length cl) (.slice Aa bs2.length ca) w')
  ((refine OpS.all1 hb2 hb1 d0 ?_;first | assumption | exact hX.drew | exact hX.drew.alloc _ | exact OpS.call (hX.drew.alloc _) hgp (by assumption)))
  (first | (go_at_call 46;refine HX.out.mono ?_;rintro e w' ⟨rfl,hpf⟩))
 rename_i hh
 have HR:=Lib.hid (HA.out.then hpf)
 clear hh hpf hX d0 HX hb1 hb2 e0 e1 e2 e3 e4 e5 e6
 go_wp2_with fail
 go_end0
 exact ⟨rfl,by rw [HQ.out];exact HR.out⟩
theorem OpS.step {B p x m:Nat}{lim:Int}{bs:Txt}{w W1 w' w'':World}{g:Nat}{v0 v1 v2 v3 v4 v5 v6:Value}(h:OpS B p x m lim w W1 g v0 v1 v2 v3 v4 v5 v6 w')(hne:g≠p)(hp:PrF B p x m lim bs w w'')(hf:FrP B p w' w''):OpS B p x m lim w W1 g v0 v1 v2 v3 v4 v5 v6 w'':=by
 obtain ⟨_,h1,h2,h3⟩:=h
 exact ⟨_,hp,h2.fr' hf hne,h3.trans hf⟩
theorem join_any {B:Nat}(w:World)(A:Option Addr)(c:Nat)(r:List Txt)(sep:Txt)(hN:NamesAt (fun b=>b < B) w A r)(hc:r.length≤c)(hn:r.length≤1000000)(hlen:(Lib.join r sep).length≤140737488355328) :
  Calls Tryz.prog 70 #[.slice A r.length c,.string (strB sep)] w fun e w'=>e=.returned (.string (strB (Lib.join r sep)))∧Below w.heap.size w w':=by
 cases r with
 | nil=>exact (Tryz.strings_Join_none A c (strB sep) w).mono fun e w2 h=>⟨by rw [h.1];rfl,by rw [h.2];exact Below.refl _ _⟩
 | cons y r =>
  obtain ⟨b,off,rfl,hb,hlt,hcc⟩:=hN (by simp)
  have hm:((y :: r).map strB).map (·.data.toList)=y :: r:=by rw [List.map_map];exact (List.map_congr_left (fun a _=>data_strB a)).trans (List.map_id _)
  have:=Tryz.strings_Join b off c ((y :: r).map strB) (strB sep) w (fun j z hj=>by
   rw [List.getElem?_map,Option.map_eq_some_iff] at hj
   obtain ⟨a,ha,rfl⟩:=hj
   exact hcc j a ha) hlt (by rw [List.length_map];omega) (by rw [List.length_map];exact hc) (by rw [hm,data_strB];exact hlen)
  rw [hm,List.length_map,data_strB] at this
  exact this
set_option maxRecDepth 100000 in
set_option maxHeartbeats 4000000 in
theorem rule_using (n:Int)(s t:Txt)(nm:Txt)(nr:List Txt)(l:List Ex)(ops:List (Txt × List Txt))(bs2:List Ex)(hS:∀ e∈l,ExprSays e)(hln:3≤l.length)(hnr:nr.length≤1000000):RuleSays (.mk 17 n s t (nm :: nr) l ops bs2):=by
 intro B p x m lim bs cs w hP hre hlen
 have HRE:=Lib.hid hre
 obtain ⟨An,cn,Al,cl,Aa,ca,rfl,hf,hn,hl,ha,ho⟩:=hre
 show Calls Tryz.prog 35 #[.pointer (some ⟨p,0,none⟩),.agg #[.int .i64 17,.int .i64 n,.string (strB s),.string (strB t),.slice An (nm :: nr).length cn,.slice Al l.length cl,.slice Aa bs2.length ca]] w _
 obtain ⟨W1,hW1⟩:∃ W1,w.alloc (.cells #[.int .i64 17,.int .i64 n,.string (strB s),.string (strB t),.slice An (nm :: nr).length cn,.slice Al l.length cl,.slice Aa bs2.length ca] 27)=W1:=⟨_,rfl⟩
 have HF1:Hid (PrF B p x m lim bs w W1):=Lib.hid (by rw [← hW1];exact (PrF.refl hP).below ((Below.refl _ _).alloc (Nat.le_refl _) _))
 have HE1:Hid (EB W1 w.heap.size (.int .i64 17) (.int .i64 n) (.string (strB s)) (.string (strB t)) (.slice An (nm :: nr).length cn) (.slice Al l.length cl) (.slice Aa bs2.length ca)):=Lib.hid (by rw [← hW1];exact EB.new w _ _ _ _ _ _ _)
 have e0:=HE1.out.c0
 have e1:=HE1.out.c1
 have e2:=HE1.out.c2
 have e3:=HE1.out.c3
 have e4:=HE1.out.c4
 have e5:=HE1.out.c5
 have e6:=HE1.out.c6
 have hx1:=HF1.out.1.cx
 have hgp:w.heap.size≠p:=by have:=hP.ltp;omega
 obtain ⟨J,hJ⟩:∃ J,J=Lib.join nr [44,32]:=⟨_,rfl⟩
 have hpcs:pcs (.mk 17 n s t (nm :: nr) l ops bs2)=[[117,115,105,110,103,32],nm,[32,91],J,[93]]++behindP (l.map Ex.lp) [[32,61,32],[32,99,108,111,115,101,32],[32,105,110,32]]:=by rw [pcs_mk,hJ];rfl
 rw [hpcs] at hlen
 obtain ⟨psx,hpsx⟩:∃ q,q=pcs (.mk 17 n s t (nm :: nr) l ops bs2):=⟨_,rfl⟩
 have HT:Hid (tot ([[117,115,105,110,103,32],nm,[32,91],J,[93]]++behindP (l.map Ex.lp) [[32,61,32],[32,99,108,111,115,101,32],[32,105,110,32]])=tot [[117,115,105,110,103,32],nm,[32,91],J,[93]]+tot (behindP (l.map Ex.lp) [[32,61,32],[32,99,108,111,115,101,32],[32,105,110,32]])):=Lib.hid (tot_append _ _)
 have HL1:=Lib.hid (wrs_fit hlen HT.out)
 have HL2:=Lib.hid (wrs_le lim [[117,115,105,110,103,32],nm,[32,91],J,[93]] bs hlen HT.out)
 have HQ:Hid (wrs lim bs psx=wrs lim (wrs lim bs [[117,115,105,110,103,32],nm,[32,91],J,[93]]) (behindP (l.map Ex.lp) [[32,61,32],[32,99,108,111,115,101,32],[32,105,110,32]])):=Lib.hid (by rw [hpsx,hpcs,wrs_append])
 rw [← hpsx]
 obtain ⟨bn,on,rfl,hb2,hlt0,hc0⟩:=name0 hn
 have hb1:bn < W1.heap.size:=Nat.lt_of_lt_of_le hlt0 HF1.out.2.2.2
 have d0:W1.cell? ⟨bn,on,none⟩=some (.string (strB nm)):=(HF1.out.2.same.cell (P:=fun b=>b < B) hb2 hlt0 on).trans hc0
 have HJ:Hid (∀ A2 c2,nr.length≤c2→(nr≠[]→A2=some ⟨bn,on+1,none⟩)→Calls Tryz.prog 70 #[.slice A2 nr.length c2,.string (strB [44,32])] W1.drew fun e w'=>e=.returned (.string (strB J))∧Below W1.drew.heap.size W1.drew w'):=Lib.hid (fun A2 c2 h1 h2=>by
  rw [hJ]
  refine join_any (B:=B) W1.drew A2 c2 nr [44,32] (fun h0=>?_) h1 hnr ?_
  ·rw [h2 h0];exact ((NamesAt.tail hn).keep HF1.out.2.drew.same) h0
  ·have:=HL1.out
   rw [← hJ]
   simp only [tot_cons] at this
   omega)
 have HB:=Lib.hid (fun (bs':Txt) (w':World) (h1:PrF B p x m lim bs' w w') h2=>behind_any B p x m lim bs' Al cl w'.heap.size l [[32,61,32],[32,99,108,111,115,101,32],[32,105,110,32]] (w'.alloc (.cells ([[32,61,32],[32,99,108,111,115,101,32],[32,105,110,32]].map fun s=>Value.string (strB s)).toArray 9)) (h1.1.alloc _) hS ((parts_of hl).fr (h1.below ((Below.refl _ _).alloc (Nat.le_refl _) _)).2) (heap_alloc_new w' _) ⟨hln,Nat.le_trans hf.hcl.1 hf.hcl.2⟩ (by simp) h2)
 have i0:(0:Int) < ((nm :: nr).length:Int):=by simp
 have i0n:0 < (nm :: nr).length:=by simp
 have hcn1:=hf.hcn.1
 have hcn2:=hf.hcn.2
 obtain ⟨mr,hmr⟩:∃ q,q=nr.length:=⟨_,rfl⟩
 have hmn':(nm :: nr).length=mr+1:=by rw [hmr];rfl
 rw [hmn'] at HE1 hW1 e4 i0 i0n hcn1 ⊢
 rw [← hmr] at HJ
 have HNr:Hid (nr≠[]→mr≠0):=Lib.hid (fun h e=>h (List.length_eq_zero_iff.1 (by rw [← hmr];exact e)))
 obtain ⟨ml,hml⟩:∃ q,q=l.length:=⟨_,rfl⟩
 rw [← hml] at HE1 hW1 e5 HB ⊢
 unfold maxLen at hcn2
 clear hf hn hl ha ho hpcs hpsx hS hln hlen hP hnr hmn' hc0 hlt0 hJ hmr hml HT
 by_cases hc1:cn=1
 ·subst hc1
  obtain rfl:mr=0:=by omega
  have HJ2:=Lib.hid (HJ.out (some ⟨bn,on,none⟩) 0 (Nat.le_refl _) (fun h=>absurd rfl (HNr.out h)))
  clear HJ
  go_enter Tryz.func35,Tryz.ntmps35
  go_wp2_with fail
  clear hW1
  have hX:OpS B p x m lim w W1 w.heap.size (.int .i64 17) (.int .i64 n) (.string (strB s)) (.string (strB t)) (.slice (some ⟨bn,on,none⟩) (0+1) 1) (.slice Al ml cl) (.slice Aa bs2.length ca) W1:=OpS.mk HF1.out HE1.out
  go_region_held3 (fun w'=>w'.cell? ⟨bn,on,none⟩=some (.string (strB nm))∧w'.cell? ⟨x,0,none⟩=some (.pointer (some ⟨p,0,none⟩))∧w'.cell? ⟨w.heap.size,0,none⟩=some (.int .i64 17)∧w'.cell? ⟨w.heap.size,1,none⟩=some (.int .i64 n)∧w'.cell? ⟨w.heap.size,2,none⟩=some (.string (strB s))∧w'.cell? ⟨w.heap.size,3,none⟩=some (.string (strB t))∧w'.cell? ⟨w.heap.size,4,none⟩=some (.slice (some ⟨bn,on,none⟩) (0+1) 1)∧w'.cell? ⟨w.heap.size,5,none⟩=some (.slice Al ml cl)∧w'.cell? ⟨w.heap.size,6,none⟩=some (.slice Aa bs2.length ca)∧OpS B p x m lim w W1 w.heap.size (.int .i64 17) (.int .i64 n) (.string (strB s)) (.string (strB t)) (.slice (some ⟨bn,on,none⟩) (0+1) 1) (.slice Al ml cl) (.slice Aa bs2.length ca) w')
   ((refine OpS.all1 hb2 hb1 d0 ?_;first | assumption | exact hX.drew | exact hX.drew.below hbj | exact (hX.drew.below hbj).alloc _ | exact OpS.step (hX.drew.below hbj) hgp hpw hfw))
   (first | (go_at_call 70;refine HJ2.out.mono ?_;rintro e wj ⟨rfl,hbj⟩) | (go_at_call 25;refine (write_new [[117,115,105,110,103,32],nm,[32,91],J,[93]] wj (HF1.out.drew.below hbj) (by simp) HL1.out).mono ?_;rintro e w2 ⟨rfl,hpw,hfw⟩))
  rename_i hh
  have HP2:=Lib.hid hpw
  have g5:=hh.2.2.2.2.2.2.2.1
  clear hh hpw hfw hX d0 hb1 hb2 e0 e1 e2 e3 e4 e5 e6 hx1 HJ2 hbj
  go_wp2_with fail
  refine (HB.out _ w2 HP2.out HL2.out).mono ?_
  rintro e w3 ⟨rfl,hp3⟩
  have HP3:=Lib.hid ((HP2.out.below ((Below.refl _ _).alloc (Nat.le_refl _) _)).then hp3)
  clear hp3 g5
  go_wp2_with fail
  go_end0
  exact ⟨rfl,by rw [HQ.out];exact HP3.out⟩
 ·have j1:(1:Int)≤(mr:Int)+1:=by omega
  have j2:(mr:Int)+1≤(cn:Int):=by omega
  have HJ2:=Lib.hid (HJ.out (some ⟨bn,on+1,none⟩) (cn - 1) (by omega) (fun _=>rfl))
  clear HJ
  go_enter Tryz.func35,Tryz.ntmps35
  go_wp2_with fail
  clear hW1
  have hX:OpS B p x m lim w W1 w.heap.size (.int .i64 17) (.int .i64 n) (.string (strB s)) (.string (strB t)) (.slice (some ⟨bn,on,none⟩) (mr+1) cn) (.slice Al ml cl) (.slice Aa bs2.length ca) W1:=OpS.mk HF1.out HE1.out
  go_region_held3 (fun w'=>w'.cell? ⟨bn,on,none⟩=some (.string (strB nm))∧w'.cell? ⟨x,0,none⟩=some (.pointer (some ⟨p,0,none⟩))∧w'.cell? ⟨w.heap.size,0,none⟩=some (.int .i64 17)∧w'.cell? ⟨w.heap.size,1,none⟩=some (.int .i64 n)∧w'.cell? ⟨w.heap.size,2,none⟩=some (.string (strB s))∧w'.cell? ⟨w.heap.size,3,none⟩=some (.string (strB t))∧w'.cell? ⟨w.heap.size,4,none⟩=some (.slice (some ⟨bn,on,none⟩) (mr+1) cn)∧w'.cell? ⟨w.heap.size,5,none⟩=some (.slice Al ml cl)∧w'.cell? ⟨w.heap.size,6,none⟩=some (.slice Aa bs2.length ca)∧OpS B p x m lim w W1 w.heap.size (.int .i64 17) (.int .i64 n) (.string (strB s)) (.string (strB t)) (.slice (some ⟨bn,on,none⟩) (mr+1) cn) (.slice Al ml cl) (.slice Aa bs2.length ca) w')
   ((refine OpS.all1 hb2 hb1 d0 ?_;first | assumption | exact hX.drew | exact hX.drew.below hbj | exact (hX.drew.below hbj).alloc _ | exact OpS.step (hX.drew.below hbj) hgp hpw hfw))
   (first | (go_at_call 70;refine HJ2.out.mono ?_;rintro e wj ⟨rfl,hbj⟩) | (go_at_call 25;refine (write_new [[117,115,105,110,103,32],nm,[32,91],J,[93]] wj (HF1.out.drew.below hbj) (by simp) HL1.out).mono ?_;rintro e w2 ⟨rfl,hpw,hfw⟩))
  rename_i hh
  have HP2:=Lib.hid hpw
  have g5:=hh.2.2.2.2.2.2.2.1
  clear hh hpw hfw hX d0 hb1 hb2 e0 e1 e2 e3 e4 e5 e6 hx1 HJ2 hbj
  go_wp2_with fail
  refine (HB.out _ w2 HP2.out HL2.out).mono ?_
  rintro e w3 ⟨rfl,hp3⟩
  have HP3:=Lib.hid ((HP2.out.below ((Below.refl _ _).alloc (Nat.le_refl _) _)).then hp3)
  clear hp3 g5
  go_wp2_with fail
  go_end0
  exact ⟨rfl,by rw [HQ.out];exact HP3.out⟩
end Go.Proofs.YtpjabnemkmdobaaGreatDoor
namespace Go.Proofs.YtpjabnemkmdobaaGreatDoor
open Go.RowKit
structure Shape (k n:Int) (s t:Txt) (ns:List Txt) (nl nb:Nat) (ops:List (Txt × List Txt)) (kn:Nat):Prop where
 hk:k=(kn:Int)
 lt:kn < 20
 num:numHas (useOf kn 0) n=true
 s1:nameHas (useOf kn 1) s=true
 t1:nameHas (useOf kn 2) t=true
 names:cntIn ns.length (useOf kn 3) (useOf kn 4)=true
 parts:cntIn nl (useOf kn 5) (useOf kn 6)=true
 room:roomB nb (useOf kn 7)=true
 nms:nmsErr k ns=0
 arms:armsErr (useOf kn 7) [] ops=0
theorem shape_of {k n:Int}{s t:Txt}{ns:List Txt}{l:List Ex}{ops:List (Txt × List Txt)}{bs:List Ex}(h:chkN (.mk k n s t ns l ops bs)=0):∃ kn,Shape k n s t ns l.length bs.length ops kn:=by
 unfold chkN at h
 by_cases hk:0≤(Ex.mk k n s t ns l ops bs).k∧(Ex.mk k n s t ns l ops bs).k < 20
 ·rw [if_pos hk] at h
  simp only [Ex.k] at hk
  change (if numHas (useOf k.toNat 0) n=false then (1:Int)
   else if nameHas (useOf k.toNat 1) s=false then 4
   else if nameHas (useOf k.toNat 2) t=false then 4
   else if cntIn ns.length (useOf k.toNat 3) (useOf k.toNat 4)=false then 7
   else if cntIn l.length (useOf k.toNat 5) (useOf k.toNat 6)=false then 7
   else if roomB bs.length (useOf k.toNat 7)=false then 7
   else if nmsErr k ns=0 then armsErr (useOf k.toNat 7) [] ops else nmsErr k ns)=0 at h
  refine ⟨k.toNat,by omega,by omega,?_,?_,?_,?_,?_,?_,?_,?_⟩
  all_goals
   by_cases h1:numHas (useOf k.toNat 0) n=false
   ·rw [if_pos h1] at h;omega
   rw [if_neg h1] at h
   by_cases h2:nameHas (useOf k.toNat 1) s=false
   ·rw [if_pos h2] at h;omega
   rw [if_neg h2] at h
   by_cases h3:nameHas (useOf k.toNat 2) t=false
   ·rw [if_pos h3] at h;omega
   rw [if_neg h3] at h
   by_cases h4:cntIn ns.length (useOf k.toNat 3) (useOf k.toNat 4)=false
   ·rw [if_pos h4] at h;omega
   rw [if_neg h4] at h
   by_cases h5:cntIn l.length (useOf k.toNat 5) (useOf k.toNat 6)=false
   ·rw [if_pos h5] at h;omega
   rw [if_neg h5] at h
   by_cases h6:roomB bs.length (useOf k.toNat 7)=false
   ·rw [if_pos h6] at h;omega
   rw [if_neg h6] at h
   have h7:nmsErr k ns=0:=by
    by_cases h7:nmsErr k ns=0
    ·exact h7
    ·rw [if_neg h7] at h;exact absurd h h7
   rw [if_pos h7] at h
   simp only [Bool.not_eq_false] at h1 h2 h3 h4 h5 h6
   assumption
 ·rw [if_neg hk] at h;omega
theorem cnt_ge {n:Nat}{a b:Int}(h:cntIn n a b=true):a≤n∧(n:Int)≤a+b:=by
 unfold cntIn at h
 simpa using h
def wfE (e:Ex):Prop:=∀ q∈nodesE 1 e,chkN q.2=0
mutual
theorem nodesE_snd (P:Ex→Prop):∀ (e:Ex) (d d':Int),(∀ q∈nodesE d e,P q.2)→∀ q∈nodesE d' e,P q.2
 | .mk k n s t ns l ops bs,d,d',h,q,hq=>by
  simp only [nodesE,List.mem_cons,List.mem_append] at hq
  rcases hq with rfl | hq | hq
  ·exact h (d,_) (by simp [nodesE])
  ·exact nodesL_snd P l (d+1) (d'+1) (fun q hq=>h q (by simp [nodesE,hq])) q hq
  ·exact nodesL_snd P bs (d+1) (d'+1) (fun q hq=>h q (by simp [nodesE,hq])) q hq
theorem nodesL_snd (P:Ex→Prop):∀ (l:List Ex) (d d':Int),(∀ q∈nodesL d l,P q.2)→∀ q∈nodesL d' l,P q.2
 | [],d,d',_,q,hq=>by simp [nodesL] at hq
 | x :: r,d,d',h,q,hq=>by
  simp only [nodesL,List.mem_append] at hq
  rcases hq with hq | hq
  ·exact nodesE_snd P x d d' (fun q hq=>h q (by simp [nodesL,hq])) q hq
  ·exact nodesL_snd P r d d' (fun q hq=>h q (by simp [nodesL,hq])) q hq
end
theorem mem_nodesL {l:List Ex}{x:Ex}(h:x∈l):∀ {d:Int} {q:Int × Ex},q∈nodesE d x→q∈nodesL d l:=by
 induction l with
 | nil=>simp at h
 | cons y r ih =>
  intro d q hq
  simp only [nodesL,List.mem_append]
  rcases List.mem_cons.1 h with rfl | h
  ·exact .inl hq
  ·exact .inr (ih h hq)
theorem wfE.parts {k n:Int}{s t:Txt}{ns:List Txt}{l:List Ex}{ops:List (Txt × List Txt)}{bs:List Ex}(h:wfE (.mk k n s t ns l ops bs)):chkN (.mk k n s t ns l ops bs)=0∧(∀ x∈l,wfE x)∧∀ x∈bs,wfE x:=by
 refine ⟨h (1,_) (by simp [nodesE]),fun x hx=>nodesE_snd (fun e=>chkN e=0) x (1+1) 1 fun q hq=>h q ?_,fun x hx=>nodesE_snd (fun e=>chkN e=0) x (1+1) 1 fun q hq=>h q ?_⟩
 ·simp only [nodesE,List.mem_cons,List.mem_append]
  exact .inr (.inl (mem_nodesL hx hq))
 ·simp only [nodesE,List.mem_cons,List.mem_append]
  exact .inr (.inr (mem_nodesL hx hq))
theorem firstF_zero {chk:Ex→Int}:∀ {l:List (Int × Ex)},firstF chk l=0→∀ q∈l,chk q.2=0
 | [],_,q,hq=>by simp at hq
 | (d,x) :: r,h,q,hq=>by
  unfold firstF at h
  by_cases hx:chk x=0
  ·rw [if_pos hx] at h
   rcases List.mem_cons.1 hq with rfl | hq
   ·exact hx
   ·exact firstF_zero h q hq
  ·rw [if_neg hx] at h;exact absurd h hx
theorem len_ge {n:Nat}{a:Int}{b:Nat}(h:a≤n)(e:a=b):b≤n:=by omega
theorem rule_all (e:Ex)(h:chkN e=0)(hl:∀ x∈e.l,ExprSays x)(hb:∀ x∈e.bs,ExprSays x):RuleSays e:=by
 cases e with
 | mk k n s t ns l ops bs =>
 simp only [Ex.l,Ex.bs] at hl hb
 obtain ⟨kn,H⟩:=shape_of h
 obtain ⟨hk,lt,num,s1,t1,names,parts,room,_,_⟩:=H
 subst hk
 have hp:=cnt_ge parts
 have hn:=cnt_ge names
 clear h num t1 room
 obtain rfl | rfl | rfl | rfl | rfl | rfl | rfl | rfl | rfl | rfl | rfl | rfl | rfl | rfl | rfl | rfl | rfl | rfl | rfl | rfl:kn=0∨kn=1∨kn=2∨kn=3∨kn=4∨kn=5∨kn=6∨kn=7∨kn=8∨kn=9∨kn=10∨kn=11∨kn=12∨kn=13∨kn=14∨kn=15∨kn=16∨kn=17∨kn=18∨kn=19:=by omega
 ·exact rule_var n s t ns l ops bs
 ·exact rule_int n s t ns l ops bs
 ·exact rule_bool n s t ns l ops bs
 ·exact rule_unit n s t ns l ops bs
 ·exact rule_fun n s t ns l ops bs hl (len_ge hp.1 (b:=1) (by decide))
 ·exact rule_app n s t ns l ops bs hl (len_ge hp.1 (b:=2) (by decide))
 ·exact rule_let n s t ns l ops bs hl (len_ge hp.1 (b:=2) (by decide))
 ·exact rule_rec n s t ns l ops bs hl (len_ge hp.1 (b:=2) (by decide))
 ·exact rule_if n s t ns l ops bs hl (len_ge hp.1 (b:=3) (by decide))
 ·exact rule_prim n s t ns l ops bs hl (len_ge hp.1 (b:=2) (by decide)) (by simpa [nameHas,show useOf 9 1=4 by decide] using s1)
 ·exact rule_con n s t ns l ops bs hl
 ·exact rule_match n s t ns l ops bs hl (len_ge hp.1 (b:=1) (by decide)) hb
 ·exact rule_do n s t ns l ops bs hl (len_ge hp.1 (b:=1) (by decide))
 ·exact rule_at n s t ns l ops bs hl (len_ge hp.1 (b:=1) (by decide))
 ·exact rule_handle n s t ns l ops bs hl (len_ge hp.1 (b:=1) (by decide)) hb
 ·have h1:useOf 15 3=1:=by decide
  cases ns with
  | nil=>simp at hn;omega
  | cons nm nr=>exact rule_named n s t nm nr l ops bs hl (len_ge hp.1 (b:=1) (by decide)) hb
 ·exact rule_mask n s t ns l ops bs hl (len_ge hp.1 (b:=1) (by decide))
 ·have h1:useOf 17 3=1:=by decide
  have h2:useOf 17 4=12:=by decide
  cases ns with
  | nil=>simp at hn;omega
  | cons nm nr=>exact rule_using n s t nm nr l ops bs hl (len_ge hp.1 (b:=3) (by decide)) (by simp at hn;omega)
 ·exact rule_resume n s t ns l ops bs hl (len_ge hp.1 (b:=1) (by decide))
 ·exact rule_drop n s t ns l ops bs
theorem expr_all:∀ e,wfE e→ExprSays e:=by
 refine Ex.ind fun e ih h=>?_
 cases e with
 | mk k n s t ns l ops bs =>
 obtain ⟨h0,h1,h2⟩:=h.parts
 have hl:∀ x∈l,ExprSays x:=fun x hx=>ih x (by simp [Ex.parts,Ex.l,Ex.bs,hx]) (h1 x hx)
 have hb:∀ x∈bs,ExprSays x:=fun x hx=>ih x (by simp [Ex.parts,Ex.l,Ex.bs,hx]) (h2 x hx)
 obtain ⟨kn,H⟩:=shape_of h0
 exact expr_says _ (by have:=H.hk;have:=H.lt;simp only [Ex.k];omega) (rule_all _ h0 hl hb)
def sumP (l:List LvP):Nat:=(l.map fun q=>tot q.2+2).sum
theorem tot_at (a:Int)(q:LvP):tot (atP a q)≤tot q.2+2:=by
 unfold atP;split
 ·omega
 ·rw [tot_append,tot_append];show 1+(tot q.2+1)≤_;omega
theorem tot_spaced (ns:List Txt)(h:∀ x∈ns,x.length≤12):tot (spacedP ns)≤13*ns.length:=by
 induction ns with
 | nil=>exact Nat.le_refl _
 | cons x r ih =>
  have h1:=h x (by simp)
  have h2:=ih (fun y hy=>h y (by simp [hy]))
  have h3:tot (spacedP (x :: r))=1+(x.length+tot (spacedP r)):=rfl
  rw [h3,List.length_cons];omega
theorem tot_behind:∀ (l:List LvP) (ts:List Txt),tot (behindP l ts)≤tot ts+sumP l
 | [],ts=>by simp [behindP,tot]
 | a :: r,[]=>by simp [behindP,tot]
 | a :: r,u :: us=>by
  have h1:=tot_behind r us
  have h2:=tot_at 0 a
  have h3:sumP (a :: r)=(tot a.2+2)+sumP r:=rfl
  have h4:tot [u]=u.length:=rfl
  have h5:tot (u :: us)=u.length+tot us:=rfl
  unfold behindP
  rw [tot_append,tot_append,h3,h4,h5];omega
theorem tot_flat (sep:Txt)(r:List (List Txt)):tot (r.flatMap fun y=>[sep]++y)=(r.map fun y=>sep.length+tot y).sum:=by
 induction r with
 | nil=>rfl
 | cons x r ih=>rw [List.flatMap_cons,tot_append,ih];rfl
theorem tot_list (sep:Txt)(xs:List (List Txt)):tot (listP sep xs)≤(xs.map fun y=>sep.length+tot y).sum:=by
 cases xs with
 | nil=>exact Nat.le_refl _
 | cons x r=>unfold listP;rw [tot_append,tot_flat,List.map_cons,List.sum_cons];omega
theorem nth_tot (l:List LvP)(i:Nat)(a:Int):tot (atP a (nth l i))≤sumP l+2:=by
 have h:=tot_at a (nth l i)
 have h2:tot (nth l i).2≤sumP l:=by
  induction l generalizing i with
  | nil=>exact Nat.zero_le _
  | cons x r ih =>
   have h3:sumP (x :: r)=(tot x.2+2)+sumP r:=rfl
   cases i with
   | zero=>have h4:nth (x :: r) 0=x:=rfl;rw [h4,h3];omega
   | succ i=>have h4:nth (x :: r) (i+1)=nth r i:=rfl;have h5:=ih i (tot_at a _);rw [h4,h3];omega
 omega
theorem nth_tot2 (l:List LvP)(a b:Int):tot (atP a (nth l 0))+tot (atP b (nth l 1))≤sumP l+4:=by
 cases l with
 | nil=>have h1:=tot_at a (nth [] 0);have h2:=tot_at b (nth [] 1);have h3:tot (nth [] 0).2=0:=rfl;have h4:tot (nth [] 1).2=0:=rfl;omega
 | cons x r =>
  have h1:=tot_at a (nth (x :: r) 0)
  have h3:sumP (x :: r)=(tot x.2+2)+sumP r:=rfl
  have h4:nth (x :: r) 0=x:=rfl
  have h5:nth (x :: r) 1=nth r 0:=rfl
  have h6:=nth_tot r 0 b
  rw [h4] at h1
  rw [h5,h4,h3];omega
theorem join_len (r:List Txt)(sep:Txt)(h:∀ x∈r,x.length≤12)(hs:sep.length=2):(Lib.join r sep).length≤14*r.length:=by
 have key:∀ r:List Txt,(∀ x∈r,x.length≤12)→((r.intersperse sep).flatten).length≤14*r.length:=by
  intro r
  induction r with
  | nil=>intro _;simp
  | cons x r ih =>
   intro h
   have h1:=h x (by simp)
   have h2:=ih (fun y hy=>h y (by simp [hy]))
   cases r with
   | nil=>simp;omega
   | cons y r =>
    rw [List.intersperse_cons_cons,List.flatten_cons,List.flatten_cons,List.length_append,List.length_append,hs]
    simp only [List.length_cons] at h2 ⊢
    omega
 exact key r h
structure Small (n:Int) (s t:Txt) (ns:List Txt) (ops:List (Txt × List Txt)) (nl nb:Nat):Prop where
 hnl:nl≤4
 hs:s.length≤12
 ht:t.length≤12
 hns:ns.length≤13∧∀ x∈ns,x.length≤12
 hops:∀ o∈ops,o.1.length≤12∧o.2.length≤4∧∀ x∈o.2,x.length≤12
 hnb:nb≤9
 hn:(Lib.itoa n).length≤21
theorem tot_arm (o:Txt × List Txt)(q:LvP)(h:o.1.length≤12∧o.2.length≤4∧∀ x∈o.2,x.length≤12):tot (armP o q)≤70+(tot q.2+2):=by
 have h1:=tot_spaced o.2 h.2.2
 have h2:=tot_at 0 q
 unfold armP
 rw [tot_append,tot_append,tot_append]
 have h3:tot [o.1]=o.1.length:=rfl
 have h4:tot [([32,45,62,32]:Txt)]=4:=rfl
 have:=h.1
 have:=h.2.1
 rw [h3,h4];omega
theorem tot_braces:∀ (ops:List (Txt × List Txt)) (bs:List LvP),(∀ o∈ops,o.1.length≤12∧o.2.length≤4∧∀ x∈o.2,x.length≤12)→((List.zipWith armP ops bs).map fun y=>2+tot y).sum≤72*bs.length+sumP bs
 | [],bs,_=>by simp
 | o :: r,[],_=>by simp
 | o :: r,q :: bs,h=>by
  have h1:=tot_arm o q (h o (by simp))
  have h2:=tot_braces r bs (fun x hx=>h x (by simp [hx]))
  have h3:sumP (q :: bs)=(tot q.2+2)+sumP bs:=rfl
  rw [List.zipWith_cons_cons,List.map_cons,List.sum_cons,h3,List.length_cons]
  omega
theorem tot_braced (ps:List Txt)(q:LvP)(ops:List (Txt × List Txt))(bs:List LvP)(h:∀ o∈ops,o.1.length≤12∧o.2.length≤4∧∀ x∈o.2,x.length≤12)(hb:bs.length≤9):tot (bracedP ps q ops bs)≤tot ps+700+tot (atP 0 q)+sumP bs:=by
 unfold bracedP bracesP
 have h1:=tot_braces ops bs h
 have h2:=tot_list [59,32] (List.zipWith armP ops bs)
 rw [tot_append,tot_append,tot_append,tot_append,tot_append,tot_append,tot_append]
 have h3:tot [([32]:Txt)]=1:=rfl
 have h4:tot [([123,32]:Txt)]=2:=rfl
 have h5:tot [([125]:Txt)]=1:=rfl
 have h6:tot (if bs.length=0 then [] else [([32]:Txt)])≤1:=by split <;> decide
 have h7:([59,32]:Txt).length=2:=rfl
 rw [h7] at h2
 rw [h3,h4,h5]
 omega
theorem nodeP_tot (k n:Int)(s t:Txt)(ns:List Txt)(l:List LvP)(ops:List (Txt × List Txt))(bs:List LvP)(h:Small n s t ns ops l.length bs.length):tot (nodeP k n s t ns l ops bs)≤950+sumP l+sumP bs:=by
 obtain ⟨hnl,hs,ht,⟨hn1,hn2⟩,ho,hb,hi⟩:=h
 have hsp:=tot_spaced ns hn2
 have hb0:=tot_behind l
 have h0:=nth_tot l 0
 have h01:=nth_tot2 l
 have hbr:=fun ps=>tot_braced ps (nth l 0) ops bs ho hb
 have hg:(ns.getD 0 []).length≤12:=by
  cases ns with
  | nil=>simp
  | cons x r=>exact hn2 x (by simp)
 unfold nodeP
 split
 ·show s.length+0≤_;omega
 ·split
  ·show 1+((Lib.itoa n).length+(1+0))≤_;omega
  ·show (Lib.itoa n).length+0≤_;omega
 ·split
  ·show 5≤_;omega
  ·show 4≤_;omega
 ·show 2≤_;omega
 ·unfold openP;rw [tot_append,tot_append];have:=hb0 [[32,45,62,32]];have h1:tot [([32,45,62,32]:Txt)]=4:=rfl;have h2:tot [([102,117,110]:Txt)]=3:=rfl;omega
 ·rw [tot_append,tot_append];have:=h01 4 5;have h3:tot [([32]:Txt)]=1:=rfl;omega
 ·unfold openP;rw [tot_append,tot_append];have:=hb0 [[32,61,32],[32,105,110,32]];have h1:tot [([32,61,32]:Txt),[32,105,110,32]]=7:=rfl;have h2:tot [([108,101,116]:Txt)]=3:=rfl;omega
 ·unfold openP;rw [tot_append,tot_append];have:=hb0 [[32,61,32],[32,105,110,32]];have h1:tot [([32,61,32]:Txt),[32,105,110,32]]=7:=rfl;have h2:tot [([114,101,99]:Txt)]=3:=rfl;omega
 ·have:=hb0 [[105,102,32],[32,116,104,101,110,32],[32,101,108,115,101,32]];have h1:tot [([105,102,32]:Txt),[32,116,104,101,110,32],[32,101,108,115,101,32]]=15:=rfl;omega
 ·rw [tot_append,tot_append];have:=h01 (operandLv ((opLv s).getD 0)) ((opLv s).getD 0+1);have h3:tot [([32]:Txt),s,[32]]=1+(s.length+1):=rfl;omega
 ·rw [tot_append]
  have h3:tot [s]=s.length:=rfl
  split
  ·have h4:tot ([]:List Txt)=0:=rfl;omega
  ·rw [tot_append,tot_append]
   have h4:tot [([91]:Txt)]=1:=rfl
   have h5:tot [([93]:Txt)]=1:=rfl
   have h6:tot (listP [44,32] (l.map (atP 0)))≤((l.map (atP 0)).map fun y=>2+tot y).sum:=tot_list [44,32] (l.map (atP 0))
   have h7:∀ l:List LvP,((l.map (atP 0)).map fun y=>2+tot y).sum≤2*l.length+sumP l:=by
    intro l
    induction l with
    | nil=>simp
    | cons x r ih =>
     have g1:=tot_at 0 x
     have g2:sumP (x :: r)=(tot x.2+2)+sumP r:=rfl
     rw [List.map_cons,List.map_cons,List.sum_cons,g2,List.length_cons]
     omega
   have h8:=h7 l
   omega
 ·have:=hbr [[109,97,116,99,104]];have:=h0 0;have h3:tot [([109,97,116,99,104]:Txt)]=5:=rfl;omega
 ·unfold callP;rw [tot_append,tot_append];have:=h0 5;have h3:tot [([32]:Txt)]=1:=rfl;have h4:tot [([100,111,32]:Txt),s]=3+s.length:=rfl;omega
 ·unfold callP;rw [tot_append,tot_append];have:=h0 5;have h3:tot [([32]:Txt)]=1:=rfl;have h4:tot [s,[46],t]=s.length+(1+t.length):=rfl;omega
 ·have:=hbr [if n=1 then [115,104,97,108,108,111,119,32] else [104,97,110,100,108,101,32],s]
  have:=h0 0
  have h3:tot [if n=1 then ([115,104,97,108,108,111,119,32]:Txt) else [104,97,110,100,108,101,32],s]≤8+s.length:=by
   split
   ·exact Nat.le_refl _
   ·show 7+s.length≤_;omega
  omega
 ·have:=hbr [[110,97,109,101,100,32],ns.getD 0 [],[32],s];have:=h0 0;have h3:tot [([110,97,109,101,100,32]:Txt),ns.getD 0 [],[32],s]=6+((ns.getD 0 []).length+(1+s.length)):=rfl;omega
 ·unfold callP;rw [tot_append,tot_append];have:=h0 5;have h3:tot [([32]:Txt)]=1:=rfl;have h4:tot [([109,97,115,107,32]:Txt),s]=5+s.length:=rfl;omega
 ·rw [tot_append]
  have:=hb0 [[32,61,32],[32,99,108,111,115,101,32],[32,105,110,32]]
  have h1:tot [([32,61,32]:Txt),[32,99,108,111,115,101,32],[32,105,110,32]]=14:=rfl
  have h2:=join_len (ns.drop 1) [44,32] (fun x hx=>hn2 x (List.mem_of_mem_drop hx)) rfl
  have h3:(ns.drop 1).length≤13:=by rw [List.length_drop];omega
  have h4:tot [([117,115,105,110,103,32]:Txt),ns.getD 0 [],[32,91],Lib.join (ns.drop 1) [44,32],[93]]=6+((ns.getD 0 []).length+(2+((Lib.join (ns.drop 1) [44,32]).length+1))):=rfl
  omega
 ·unfold callP;rw [tot_append,tot_append];have:=h0 5;have h3:tot [([32]:Txt)]=1:=rfl;have h4:tot [([114,101,115,117,109,101,32]:Txt),s]=7+s.length:=rfl;omega
 ·show 5+(s.length+0)≤_;omega
theorem nm_small {k:Int}{l:Txt}(h:isNm k l=true):l.length≤12:=by
 cases l with
 | nil=>simp
 | cons c r =>
  unfold isNm at h
  simp only [Bool.and_eq_true,decide_eq_true_eq] at h
  have:=h.1.1
  simp only [List.length_cons];omega
theorem nameHas_small {c:Int}{s:Txt}(h:nameHas c s=true):s.length≤12:=by
 unfold nameHas at h
 split at h
 ·unfold isV at h;rw [Bool.and_eq_true] at h;exact nm_small h.1
 ·split at h
  ·exact nm_small h
  ·split at h
   ·unfold opLv at h
    split at h
    ·rename_i e;rw [e];decide
    ·split at h
     ·rename_i e;rcases e with e | e <;> rw [e] <;> decide
     ·split at h
      ·rename_i e;rcases e with e | e <;> rw [e] <;> decide
      ·simp at h
   ·have:s=[]:=by simpa using h
    rw [this];decide
theorem nmErr_all (c:Int):∀ (ns seen:List Txt),nmErr c seen ns=0→∀ x∈ns,nameHas c x=true
 | [],_,_,x,hx=>by simp at hx
 | y :: r,seen,h,x,hx=>by
  unfold nmErr at h
  split at h
  ·cases h
  ·rename_i h1
   split at h
   ·cases h
   ·rcases List.mem_cons.1 hx with rfl | hx
    ·simpa using h1
    ·exact nmErr_all c r _ h x hx
theorem armErr_small {a:Int}{qu qv:Bool}{op:Txt}{n:Nat}{first:Bool}(h:armErr a qu qv op n first=0)(hu:qu=true→op.length≤12)(hv:qv=true→op.length≤12):op.length≤12∧n≤4:=by
 unfold armErr at h
 split at h
 ·split at h
  ·cases h
  ·rename_i h1
   split at h
   ·cases h
   ·rename_i h2
    exact ⟨hu (by simpa using h2),by simp at h1;omega⟩
 ·split at h
  ·split at h
   ·cases h
   ·rename_i h1
    simp only [Bool.not_eq_false,Bool.and_eq_true,beq_iff_eq] at h1
    exact ⟨by rw [h1.1];decide,by omega⟩
  ·split at h
   ·cases h
   ·rename_i h1
    split at h
    ·cases h
    ·rename_i h2
     exact ⟨hv (by simpa using h2),by simp at h1;omega⟩
theorem armsErr_all (a:Int):∀ (ops seen:Hds),armsErr a seen ops=0→∀ o∈ops,o.1.length≤12∧o.2.length≤4∧∀ x∈o.2,x.length≤12
 | [],_,_,o,ho=>by simp at ho
 | y :: r,seen,h,o,ho=>by
  unfold armsErr at h
  split at h
  ·rename_i h1
   split at h
   ·rename_i h2
    split at h
    ·cases h
    ·rcases List.mem_cons.1 ho with rfl | ho
     ·have h4:=armErr_small h1 nm_small (fun hv=>by unfold isV at hv;rw [Bool.and_eq_true] at hv;exact nm_small hv.1)
      exact ⟨h4.1,h4.2,fun x hx=>nameHas_small (nmErr_all 1 _ _ h2 x hx)⟩
     ·exact armsErr_all a r _ h o ho
   ·rename_i h2;exact absurd h h2
  ·rename_i h1;exact absurd h h1
theorem useCnt:∀ k,k < 20→useOf k 3+useOf k 4≤13∧useOf k 5+useOf k 6≤4:=by decide
theorem numHas_bd {c n:Int}(h:numHas c n=true):-999999999≤n∧n≤999999999:=by
 unfold numHas at h
 split at h
 ·simp at h;omega
 ·split at h
  ·simp at h;omega
  ·split at h
   ·simp at h;omega
   ·simp at h;omega
theorem nms_small {k:Int}{ns:List Txt}(h:nmsErr k ns=0):∀ x∈ns,x.length≤12:=by
 unfold nmsErr at h
 intro x hx
 split at h
 ·split at h
  ·rename_i h1
   rw [← List.take_append_drop 1 ns] at hx
   rcases List.mem_append.1 hx with hx | hx
   ·exact nameHas_small (nmErr_all 1 _ _ h1 x hx)
   ·exact nameHas_small (nmErr_all 2 _ _ h x hx)
  ·rename_i h1;exact absurd h h1
 ·exact nameHas_small (nmErr_all 1 _ _ h x hx)
theorem small_of {k n:Int}{s t:Txt}{ns:List Txt}{nl nb:Nat}{ops:List (Txt × List Txt)}{kn:Nat}(H:Shape k n s t ns nl nb ops kn):Small n s t ns ops nl nb:=by
 have hu:=useCnt kn H.lt
 have h1:=cnt_ge H.parts
 have h2:=cnt_ge H.names
 have h3:=numHas_bd H.num
 refine ⟨by omega,nameHas_small H.s1,nameHas_small H.t1,⟨by omega,nms_small H.nms⟩,armsErr_all _ _ _ H.arms,?_,?_⟩
 ·have:=H.room
  unfold roomB at this
  simp at this
  omega
 ·exact Lib.itoa_length_le n (by omega) (by omega)
theorem nodesE_len:∀ (d d':Int),(∀ e,(nodesE d e).length=(nodesE d' e).length):=by
 intro d d' e
 induction e using Ex.ind generalizing d d' with
 | h e ih =>
  cases e with
  | mk k n s t ns l ops bs =>
   have key:∀ (L:List Ex),(∀ x∈L,∀ a b:Int,(nodesE a x).length=(nodesE b x).length)→∀ a b:Int,(nodesL a L).length=(nodesL b L).length:=by
    intro L
    induction L with
    | nil=>intro _ a b;simp [nodesL]
    | cons y r ihr =>
     intro hL a b
     simp only [nodesL,List.length_append]
     rw [hL y (by simp) a b,ihr (fun x hx=>hL x (by simp [hx])) a b]
   simp only [nodesE,List.length_cons,List.length_append]
   rw [key l (fun x hx a b=>ih x (by simp [Ex.parts,Ex.l,Ex.bs,hx]) a b) (d+1) (d'+1),key bs (fun x hx a b=>ih x (by simp [Ex.parts,Ex.l,Ex.bs,hx]) a b) (d+1) (d'+1)]
theorem tot_pcs:∀ e,wfE e→∀ d,tot (pcs e)+2≤1000*(nodesE d e).length:=by
 refine Ex.ind fun e ih h d=>?_
 cases e with
 | mk k n s t ns l ops bs =>
 obtain ⟨h0,h1,h2⟩:=h.parts
 obtain ⟨kn,H⟩:=shape_of h0
 have key:∀ (L:List Ex),(∀ x∈L,tot (pcs x)+2≤1000*(nodesE (d+1) x).length)→sumP (L.map Ex.lp)≤1000*(nodesL (d+1) L).length:=by
  intro L
  induction L with
  | nil=>intro _;simp [sumP]
  | cons y r ihr =>
   intro hL
   have g1:=hL y (by simp)
   have g2:=ihr (fun x hx=>hL x (by simp [hx]))
   have g3:sumP ((y :: r).map Ex.lp)=(tot (pcs y)+2)+sumP (r.map Ex.lp):=rfl
   simp only [nodesL,List.length_append]
   rw [g3];omega
 have a1:=key l (fun x hx=>ih x (by simp [Ex.parts,Ex.l,Ex.bs,hx]) (h1 x hx) (d+1))
 have a2:=key bs (fun x hx=>ih x (by simp [Ex.parts,Ex.l,Ex.bs,hx]) (h2 x hx) (d+1))
 have a3:=nodeP_tot k n s t ns (l.map Ex.lp) ops (bs.map Ex.lp) (by rw [List.length_map,List.length_map];exact small_of H)
 rw [pcs_mk]
 simp only [nodesE,List.length_cons,List.length_append]
 omega
theorem measF_len:∀ (L:List (Int × Ex)) (s m:Int),(measF s m L).1≤3000→(measF s m L).2≤200→(measF s m L).1=s+L.length
 | [],s,m,_,_=>by simp [measF]
 | (d,x) :: r,s,m,h1,h2=>by
  unfold measF at h1 h2 ⊢
  split at h1
  ·rename_i hc
   rw [if_pos hc] at h2
   simp only at h1 h2
   omega
  ·rename_i hc
   rw [if_neg hc] at h2 ⊢
   have:=measF_len r _ _ h1 h2
   rw [this,List.length_cons];omega
theorem msd_ok {e:Ex}(h:(msd chkN e).2.2=0):wfE e∧(nodesE 1 e).length≤3000∧(msd chkN e).1=(nodesE 1 e).length∧(msd chkN e).2.1=(measF 0 0 (nodesE 1 e)).2:=by
 unfold msd at h ⊢
 split at h
 ·cases h
 ·rename_i hc
  rw [if_neg hc]
  split at h
  ·rename_i h0
   rw [if_pos h0]
   have h1:=measF_len (nodesE 1 e) 0 0 (by omega) (by omega)
   refine ⟨firstF_zero h0,by omega,by simp only;omega,rfl⟩
  ·rename_i h0;exact absurd h h0
theorem itoa_small {n:Int}(h:0≤n∧n < 10):Lib.itoa n=[UInt8.ofNat (48+n.toNat)]:=by
 unfold Lib.itoa
 rw [if_neg (by omega),Lib.decDigits_one (by omega)]
theorem itoa_big {n:Int}(h:10≤n):Lib.itoa n=Lib.itoa (n / 10)++Lib.itoa (n % 10):=by
 have h1:¬ n.toNat < 10:=by omega
 rw [itoa_small (n:=n % 10) (by omega)]
 unfold Lib.itoa
 rw [if_neg (by omega),if_neg (by omega)]
 conv=>lhs;rw [Lib.decDigits,dif_neg h1]
 rw [show n.toNat / 10=(n / 10).toNat from by omega,show n.toNat % 10=(n % 10).toNat from by omega]
def StrsAt (w:World)(A:Option Addr)(L:List (List UInt8)):Prop :=
 ∃ b off,A=some ⟨b,off,none⟩∧b < w.heap.size∧∀ (j:Nat) (l:List UInt8),L[j]?=some l→w.cell? ⟨b,off+j,none⟩=some (.string (strB l))
theorem StrsAt.below {w w':World}{A:Option Addr}{L:List (List UInt8)}(h:StrsAt w A L)(hb:Below w.heap.size w w'):StrsAt w' A L:=by
 obtain ⟨b,off,e,hlt,hc⟩:=h
 exact ⟨b,off,e,Nat.lt_of_lt_of_le hlt hb.size,fun j l hj=>(hb.cell (p:=⟨b,_,none⟩) hlt).trans (hc j l hj)⟩
theorem strs_lit (W:World)(L:List (List UInt8))(t:TypeId):StrsAt (W.alloc (.cells (L.map fun l=>Value.string (strB l)).toArray t)) (some ⟨W.heap.size,0,none⟩) L:=by
 refine ⟨W.heap.size,0,rfl,by simp,fun j x hj=>?_⟩
 have hb:=heap_alloc_new W (.cells (L.map fun l=>Value.string (strB l)).toArray t)
 rw [cell_of_row _ _ _ _ t (0,0) hb,Nat.zero_add]
 simp [hj]
def IdxPost (L:List (List UInt8))(s:ByteArray)(e:Ending):Prop:=∃ r:Int,e=.returned (.int .i64 r)∧decide (0≤r)=L.contains s.data.toList
set_option maxRecDepth 100000 in
set_option maxHeartbeats 1000000 in
theorem Index_any (A:Option Addr)(c:Nat)(L:List (List UInt8))(s:ByteArray)(w:World)(hL:StrsAt w A L)(hlen:L.length≤1000) :
  Calls Tryz.prog 131 #[.slice A L.length c,.string s] w fun e w'=>IdxPost L s e∧w=w':=by
 obtain ⟨b,off,rfl,hlt,hc⟩:=hL
 have HC:=Lib.hid hc
 clear hc
 go_enter Tryz.func131,Tryz.ntmps131
 go_wp2_with fail
 go_loop [5] (fun i=>∃ k:Nat,k≤L.length∧i=.int .i64 (k:Int)∧Hid (∀ (j:Nat) (h:j < L.length),j < k→L[j]≠s.data.toList)) (fun i=>L.length - (intOf i).toNat)
 case atStart=>exact ⟨0,by omega,rfl,fun j h h2=>by omega⟩
 case round =>
  obtain ⟨k,hk,rfl,HA⟩:=hrel
  by_cases hkl:k < L.length
  ·have hcell:=HC.out k L[k] (List.getElem?_eq_getElem hkl)
   obtain ⟨x,hx⟩:∃ x,x=L[k]:=⟨_,rfl⟩
   rw [← hx] at hcell
   by_cases he:x=s.data.toList
   ·have hb:((strB x).toList == s.toList)=true:=by rw [ByteArray.toList_eq,ByteArray.toList_eq,data_strB,he];simp
    have HR:Hid (decide ((0:Int)≤(k:Int))=L.contains s.data.toList):=by
     show _=_
     rw [decide_eq_true (by omega),eq_comm,List.contains_iff_mem,← he,hx]
     exact List.getElem_mem hkl
    clear he hx HA
    go_wp2_with fail
    go_ret
    exact ⟨⟨_,rfl,HR.out⟩,rfl⟩
   ·have hb:((strB x).toList == s.toList)=false:=by rw [ByteArray.toList_eq,ByteArray.toList_eq,data_strB];simpa using he
    have HA2:Hid (∀ (j:Nat) (h:j < L.length),j < k+1→L[j]≠s.data.toList):=fun j h hj=>by
     by_cases e:j=k
     ·subst e;rw [← hx];exact he
     ·exact HA.out j h (by omega)
    clear he hx HA
    go_wp2_with fail
    go_round
    case rel=>exact ⟨k+1,by omega,by go_num,HA2⟩
    case measure=>simp [intOf];omega
  ·have HR:Hid (decide ((0:Int)≤-1)=L.contains s.data.toList):=by
    show _=_
    rw [decide_eq_false (by omega),eq_comm,Bool.eq_false_iff,ne_eq,List.contains_iff_mem]
    intro hm
    obtain ⟨j,hj,e⟩:=List.getElem_of_mem hm
    exact HA.out j hj (by omega) e
   clear HA
   go_wp2_with fail
   go_ret
   exact ⟨⟨_,rfl,HR.out⟩,rfl⟩
set_option maxHeartbeats 400000 in
theorem Has_any (A:Option Addr)(c:Nat)(L:List (List UInt8))(s:ByteArray)(w:World)(hL:StrsAt w A L)(hlen:L.length≤1000) :
  Calls Tryz.prog 107 #[.slice A L.length c,.string s] w fun e w'=>e=.returned (.bool (L.contains s.data.toList))∧w=w':=by
 have HI:=Lib.hid (Index_any A c L s w hL hlen)
 clear hL
 go_enter Tryz.func107,Tryz.ntmps107
 go_wp2_with (go_at_call 131;refine (Calls.mono HI.out ?_);rintro e w' ⟨⟨r,rfl,hr⟩,rfl⟩;have HR:=Lib.hid hr;clear hr)
 go_ret
 exact ⟨ret_bool HR.out,rfl⟩
set_option maxRecDepth 100000 in
set_option maxHeartbeats 1000000 in
theorem Keywords_any (w:World):Calls Tryz.prog 130 #[] w fun e w'=>∃ A c,e=.returned (.slice A 25 c)∧StrsAt w' A kwList∧Below w.heap.size w w':=by
 have H:=Lib.hid (strs_lit w kwList 9)
 go_enter Tryz.func130,Tryz.ntmps130
 go_wp2
 go_ret
 exact ⟨_,_,rfl,H.out,(Below.refl _ _).alloc (Nat.le_refl _) _⟩
theorem intGo_app:∀ (a b:List UInt8) (n:Int),intGo n (a++b)=(intGo n a).bind (fun m=>intGo m b)
 | [],b,n=>rfl
 | c :: r,b,n=>by
  simp only [List.cons_append,intGo]
  split
  ·split
   ·rfl
   ·exact intGo_app r b _
  ·rfl
theorem dig_ofNat {n:Int}(h:0≤n∧n < 10):kb (UInt8.ofNat (48+n.toNat))=3∧((UInt8.ofNat (48+n.toNat)).toNat:Int)=48+n∧(n≠0→UInt8.ofNat (48+n.toNat)≠48):=by
 have:n=0∨n=1∨n=2∨n=3∨n=4∨n=5∨n=6∨n=7∨n=8∨n=9:=by omega
 rcases this with rfl | rfl | rfl | rfl | rfl | rfl | rfl | rfl | rfl | rfl <;> decide
theorem intGo_one {m n:Int}(_hm:0≤m)(h:0≤n∧n < 10)(hb:10*m+n≤999999999):intGo m [UInt8.ofNat (48+n.toNat)]=some (10*m+n):=by
 obtain ⟨h1,h2,_⟩:=dig_ofNat h
 simp only [intGo]
 rw [if_pos h1,h2,if_neg (by omega)]
 congr 1;omega
theorem intGo_itoa:∀ (k:Nat) (n:Int),n.toNat < k→0≤n∧n≤999999999→intGo 0 (Lib.itoa n)=some n
 | 0,n,h,_=>by omega
 | k+1,n,hk,h=>by
  by_cases h10:n < 10
  ·rw [itoa_small ⟨h.1,h10⟩,intGo_one (by omega) ⟨h.1,h10⟩ (by omega)];congr 1;omega
  ·rw [itoa_big (by omega),intGo_app,intGo_itoa k (n / 10) (by omega) (by omega),Option.bind_some,itoa_small (n:=n % 10) (by omega),intGo_one (by omega) (by omega) (by omega)]
   congr 1;omega
theorem itoa_head:∀ (k:Nat) (n:Int),n.toNat < k→1≤n→∃ c r,Lib.itoa n=c :: r∧c≠48
 | 0,n,h,_=>by omega
 | k+1,n,hk,h=>by
  by_cases h10:n < 10
  ·exact ⟨_,_,itoa_small (n:=n) (by omega),(dig_ofNat (n:=n) (by omega)).2.2 (by omega)⟩
  ·obtain ⟨c,r,e,hc⟩:=itoa_head k (n / 10) (by omega) (by omega)
   exact ⟨c,r++Lib.itoa (n % 10),by rw [itoa_big (by omega),e];rfl,hc⟩
theorem integerS_itoa {n:Int}(h:0≤n∧n≤999999999):integerS (Lib.itoa n)=some n:=by
 have h1:=intGo_itoa (n.toNat+1) n (by omega) h
 by_cases h10:n < 10
 ·rw [itoa_small ⟨h.1,h10⟩] at h1 ⊢
  simpa [integerS] using h1
 ·obtain ⟨c,r,e,hc⟩:=itoa_head (n.toNat+1) n (by omega) (by omega)
  rw [e] at h1 ⊢
  simp only [integerS]
  rw [if_neg (by simp [hc])]
  exact h1
theorem integerS_some {l:List UInt8}{n:Int}(h:integerS l=some n):l≠[]∧intGo 0 l=some n∧(1 < l.length→l[0]?≠some 48):=by
 cases l with
 | nil=>cases h
 | cons c r =>
  simp only [integerS] at h
  split at h
  ·cases h
  ·rename_i hz
   simp only [Bool.and_eq_true,decide_eq_true_eq,beq_iff_eq,not_and] at hz
   refine ⟨by simp,h,fun hl he=>?_⟩
   simp only [List.getElem?_cons_zero,Option.some.injEq] at he
   exact hz (by simpa using hl) he
theorem kb_space {c:UInt8}(h:kb c≠0):c≠10∧c≠35∧c≠32∧c≠9:=by
 refine ⟨?_,?_,?_,?_⟩ <;> (rintro rfl;exact h (by decide))
theorem spLen_word {c:UInt8}{r:List UInt8}(h:kb c≠0):spLen false (c :: r)=0:=by
 obtain ⟨h1,h2,h3,h4⟩:=kb_space h
 simp [spLen,h1,h2,h3,h4]
theorem lexF_nil (f off:Nat):lexF f off []=([],off):=by
 cases f with
 | zero=>rfl
 | succ f =>
  have:tokS (partOf (([]:List UInt8).drop (spLen false [])))=none:=by decide
  simp only [lexF]
  rw [this]
  rfl
theorem isNm_all {f:Int}{l:List UInt8}(h:isNm f l=true):l≠[]∧(∀ c∈l,kb c≠0)∧l.length≤12∧∃ c r,l=c :: r∧kb c=f:=by
 cases l with
 | nil=>cases h
 | cons c r =>
  simp only [isNm,Bool.and_eq_true,decide_eq_true_eq,beq_iff_eq,List.all_eq_true,bne_iff_ne] at h
  exact ⟨by simp,h.2,by simp only [List.length_cons];omega,c,r,rfl,h.1.2⟩
theorem isKw_nm {l:List UInt8}(h:isKw l=true):isNm 1 l=true:=by
 have hall:kwList.all (fun k=>isNm 1 k)=true:=by decide +kernel
 unfold isKw at h
 rw [List.contains_iff_mem] at h
 exact List.all_eq_true.1 hall l h
theorem nm_excl {l:List UInt8}(h:isNm 2 l=true):isNm 1 l=false:=by
 obtain ⟨_,_,_,c,r,rfl,hc⟩:=isNm_all h
 exact isNm_first (by simp) (by simp [hc])
theorem int_word {f:Int}{l:List UInt8}(hf:f≠3)(h:isNm f l=true):integerS l=none:=by
 obtain ⟨_,_,_,c,r,rfl,hc⟩:=isNm_all h
 have:intGo 0 (c :: r)=none:=by simp only [intGo];rw [if_neg (by rw [hc];exact hf)]
 simp only [integerS,this]
 split <;> rfl
theorem tok_var {l:List UInt8}(h:isNm 1 l=true)(hk:isKw l=false):tokS l=some (0,l,0):=by
 unfold tokS;rw [int_word (by decide) h];simp only [];rw [if_neg (by simp [hk]),if_pos h]
theorem tok_kw {l:List UInt8}(hk:isKw l=true):tokS l=some (1,l,0):=by
 unfold tokS;rw [int_word (by decide) (isKw_nm hk)];simp only [];rw [if_pos hk]
theorem tok_upper {l:List UInt8}(h:isNm 2 l=true):tokS l=some (2,l,0):=by
 have h1:=nm_excl h
 have hk:isKw l=false:=by
  rcases Bool.eq_false_or_eq_true (isKw l) with e | e
  ·rw [isKw_nm e] at h1;cases h1
  ·exact e
 unfold tokS;rw [int_word (by decide) h];simp only [];rw [if_neg (by simp [hk]),if_neg (by simp [h1]),if_pos h]
theorem tok_int {n:Int}(h:0≤n∧n≤999999999):tokS (Lib.itoa n)=some (3,[],n):=by
 unfold tokS;rw [integerS_itoa h]
theorem tokS_class {l s:List UInt8}{k n:Int}(h:tokS l=some (k,s,n)):(k=3∧s=[]∧integerS l=some n)∨(s=l∧n=0∧((k=1∧isKw l=true)∨(k=0∧isNm 1 l=true∧isKw l=false)∨(k=2∧isNm 2 l=true)∨(k=4∧isSym l=true))):=by
 unfold tokS at h
 split at h
 ·rename_i m hm
  simp only [Option.some.injEq,Prod.mk.injEq] at h
  obtain ⟨rfl,rfl,rfl⟩:=h
  exact .inl ⟨rfl,rfl,hm⟩
 ·right
  split at h
  ·rename_i hk;simp only [Option.some.injEq,Prod.mk.injEq] at h;obtain ⟨rfl,rfl,rfl⟩:=h;exact ⟨rfl,rfl,.inl ⟨rfl,hk⟩⟩
  ·rename_i hk
   split at h
   ·rename_i h1;simp only [Option.some.injEq,Prod.mk.injEq] at h;obtain ⟨rfl,rfl,rfl⟩:=h;exact ⟨rfl,rfl,.inr (.inl ⟨rfl,h1,by simpa using hk⟩)⟩
   ·split at h
    ·rename_i h2;simp only [Option.some.injEq,Prod.mk.injEq] at h;obtain ⟨rfl,rfl,rfl⟩:=h;exact ⟨rfl,rfl,.inr (.inr (.inl ⟨rfl,h2⟩))⟩
    ·split at h
     ·rename_i h3;simp only [Option.some.injEq,Prod.mk.injEq] at h;obtain ⟨rfl,rfl,rfl⟩:=h;exact ⟨rfl,rfl,.inr (.inr (.inr ⟨rfl,h3⟩))⟩
     ·cases h
theorem itoa_word {n:Int}(h:0≤n∧n≤999999999):Lib.itoa n≠[]∧(∀ c∈Lib.itoa n,kb c≠0):=by
 have key:∀ (k:Nat) (n:Int),n.toNat < k→0≤n→Lib.itoa n≠[]∧(∀ c∈Lib.itoa n,kb c≠0):=by
  intro k
  induction k with
  | zero=>intro n h;omega
  | succ k ih =>
   intro n hk h0
   have one:∀ d:Int,0≤d∧d < 10→Lib.itoa d≠[]∧(∀ c∈Lib.itoa d,kb c≠0):=by
    intro d hd
    rw [itoa_small hd]
    refine ⟨by simp,fun c hc=>?_⟩
    simp only [List.mem_cons,List.not_mem_nil,or_false] at hc
    subst hc
    rw [(dig_ofNat hd).1];decide
   by_cases h10:n < 10
   ·exact one n ⟨h0,h10⟩
   ·rw [itoa_big (by omega)]
    have h1:=ih (n / 10) (by omega) (by omega)
    have h2:=one (n % 10) (by omega)
    refine ⟨by simp [h1.1],fun c hc=>?_⟩
    rcases List.mem_append.1 hc with hc | hc
    ·exact h1.2 c hc
    ·exact h2.2 c hc
 exact key (n.toNat+1) n (by omega) h.1
theorem lexF_mem:∀ (f off:Nat) (l:List UInt8) (t:Tk),t∈(lexF f off l).1→∃ p,tokS p=some (t.kind,t.s,t.n)
 | 0,off,l,t,h=>by simp [lexF] at h
 | f+1,off,l,t,h=>by
  simp only [lexF] at h
  split at h
  ·simp at h
  ·rename_i k s n hx
   simp only [List.mem_cons] at h
   rcases h with rfl | h
   ·exact ⟨_,hx⟩
   ·exact lexF_mem f _ _ t h
theorem lexS_mem {l:List UInt8}{xs:List Tk}{a b:Int}(h:lexS l=(xs,a,b)){t:Tk}(ht:t∈xs):∃ p,tokS p=some (t.kind,t.s,t.n):=by
 unfold lexS at h
 split at h
 ·injection h with h;subst h;simp at ht
 ·split at h
  ·injection h with h;subst h;simp at ht
  ·injection h with h;subst h;exact lexF_mem _ _ _ t ht
theorem isNm_ne {k:Int}{s:Txt}(h:isNm k s=true):0 < s.length:=by
 cases s with
 | nil=>simp [isNm] at h
 | cons _ _=>simp
theorem nodeP_pos {k n:Int}{s t:Txt}{ns:List Txt}{nl nb:Nat}{hs:List (Txt × List Txt)}{kn:Nat}(H:Shape k n s t ns nl nb hs kn)(l:List LvP)(ops:List (Txt × List Txt))(bs:List LvP)(hl:3≤l.length∨kn≠8):0 < tot (nodeP k n s t ns l ops bs):=by
 obtain ⟨rfl,lt,num,s1,_,_,_,_,_,_⟩:=H
 have hc:∀ (a:Txt) (ps:List Txt),0 < a.length→0 < tot (a :: ps):=fun a ps h=>by have:tot (a :: ps)=a.length+tot ps:=rfl;omega
 have ha:∀ (ps qs:List Txt),0 < tot ps→0 < tot (ps++qs):=fun ps qs h=>by rw [tot_append];omega
 have hb:∀ (ps qs:List Txt),0 < tot qs→0 < tot (ps++qs):=fun ps qs h=>by rw [tot_append];omega
 obtain rfl | rfl | rfl | rfl | rfl | rfl | rfl | rfl | rfl | rfl | rfl | rfl | rfl | rfl | rfl | rfl | rfl | rfl | rfl | rfl:kn=0∨kn=1∨kn=2∨kn=3∨kn=4∨kn=5∨kn=6∨kn=7∨kn=8∨kn=9∨kn=10∨kn=11∨kn=12∨kn=13∨kn=14∨kn=15∨kn=16∨kn=17∨kn=18∨kn=19:=by omega
 ·have:isV s=true:=by simpa [nameHas,show useOf 0 1=1 by decide] using s1
  unfold isV at this;rw [Bool.and_eq_true] at this
  exact hc s [] (isNm_ne this.1)
 ·show 0 < tot (if n < 0 then [[40],Lib.itoa n,[41]] else [Lib.itoa n])
  have hbd:=numHas_bd num
  split
  ·exact hc [40] _ (by decide)
  ·exact hc _ _ (List.length_pos_iff.2 (itoa_word ⟨by omega,by omega⟩).1)
 ·show 0 < tot (if n=0 then [[102,97,108,115,101]] else [[116,114,117,101]])
  split <;> decide
 ·exact hc [40,41] [] (by decide)
 ·exact ha _ _ (by decide)
 ·exact hb _ _ (ha _ _ (by decide))
 ·exact ha _ _ (by decide)
 ·exact ha _ _ (by decide)
 ·cases l with
  | nil =>
   rcases hl with hl | hl
   ·simp at hl
   ·exact absurd rfl hl
  | cons a r=>exact ha _ _ (by decide)
 ·exact hb _ _ (ha _ _ (hc [32] _ (by decide)))
 ·have:isNm 2 s=true:=by simpa [nameHas,show useOf 10 1=2 by decide] using s1
  exact ha _ _ (hc s [] (isNm_ne this))
 ·exact ha _ _ (by decide)
 ·exact ha _ _ (hc _ _ (by decide))
 ·exact hb _ _ (ha _ _ (by decide))
 ·refine ha _ _ (hc _ _ ?_)
  split <;> decide
 ·exact ha _ _ (hc _ _ (by decide))
 ·exact ha _ _ (hc _ _ (by decide))
 ·exact ha _ _ (hc _ _ (by decide))
 ·exact ha _ _ (hc _ _ (by decide))
 ·exact hc _ _ (by decide)
theorem pcs_pos {e:Ex}(h:wfE e):0 < tot (pcs e):=by
 cases e with
 | mk k n s t ns l ops bs =>
 obtain ⟨h0,h1,h2⟩:=h.parts
 obtain ⟨kn,H⟩:=shape_of h0
 rw [pcs_mk]
 refine nodeP_pos H _ _ _ ?_
 rw [List.length_map]
 by_cases h8:kn=8
 ·subst h8
  have:=cnt_ge H.parts
  exact .inl (len_ge this.1 (b:=3) (by decide))
 ·exact .inr h8
theorem flatten_len:∀ (ps:List Txt),ps.flatten.length=tot ps
 | []=>rfl
 | s :: r=>by rw [List.flatten_cons,List.length_append,flatten_len r];rfl
theorem cellsU8:Tryz.prog.cellsOf 5=1:=by kernel_rfl
set_option maxRecDepth 100000 in
set_option maxHeartbeats 2000000 in
theorem string_any (B p m:Nat)(lim:Int)(bs:Txt)(w:World)(h:PB B p m lim bs w)(h0:bs≠[]) :
  Calls Tryz.prog 16 #[.pointer (some ⟨p,0,none⟩)] w fun e w'=>e=.returned (.string (strB bs))∧Below B w w':=by
 obtain ⟨a,v,ha,hbk,hown,hne⟩:=h
 have hl0:bs.length≠0:=by simpa using h0
 obtain ⟨g,cap,cur,rfl,hbg,hg,hnc,hcm,hcs,htake⟩:∃ g cap cur,v=.slice (some ⟨g,0,none⟩) bs.length cap∧B≤g∧w.heap[g]?=some (.cells cur 5 (0,0))∧bs.length≤cap∧cap≤maxLen∧cur.size=cap*1∧cur.toList.take (bs.length*1)=Lib.byteCells bs:=by
  rcases hown.2 with ⟨_,hz⟩ | ⟨g,cap,cur,hv,r⟩
  ·exact absurd hz hl0
  ·exact ⟨g,cap,cur,hv,r⟩
 have c1:w.drew.cell? ⟨p,1,none⟩=some (.slice (some ⟨g,0,none⟩) bs.length cap):=cell_of_row w.drew p 1 _ _ (0,0) hbk
 have hSD:(Builtin.unsafeSliceData_ #[45] 67 #[.slice (some ⟨g,0,none⟩) bs.length cap]).run Tryz.prog w.drew=.ok (.pointer (some ⟨g,0,none⟩)) w.drew :=
  Lib.run_unsafeSliceData_row _ _ _ _ _ _ (by omega)
 have hUS:(Builtin.unsafeString_ #[67,3] 9 #[.pointer (some ⟨g,0,none⟩),.int .i64 bs.length]).run Tryz.prog w.drew=.ok (.string (strB bs)) (w.drew.freeze ⟨g,0,none⟩ bs.length):=by
  refine Lib.run_unsafeString_row w.drew 67 3 9 5 Tryz.underlying67 cellsU8 g cur.size (by have hg':w.drew.heap[g]?=some (.cells cur 5 (0,0)):=hg;simp [World.shape?,hg']) bs h0 (by omega) (by unfold maxLen at hcm;omega) ?_
  intro j x hx
  have:=hown.cells (g:=g) rfl j (.int .u8 x.toNat) (by simp [Lib.byteCells,hx])
  exact this
 clear hown hbk hg htake hcs
 go_enter Tryz.func16,Tryz.ntmps16
 go_wp2
 go_region
 all_goals (go_wp2;go_ret;exact ⟨rfl,Lib.below_freeze (Below.drew (Below.refl B w)) (p:=⟨g,0,none⟩) hbg _⟩)
def showS (e:Ex):Txt × Int:=if (msd chkN e).2.2=0 then (textE e,0) else ([],(msd chkN e).2.2)
set_option maxRecDepth 100000 in
set_option maxHeartbeats 4000000 in
theorem Show_any (P:Nat→Prop)(e:Ex)(k n:Int)(s t:ByteArray)(A0:Option Addr)(n0 c0:Nat)(A1:Option Addr)(n1 c1:Nat)(A2:Option Addr)(n2 c2:Nat)(w:World)
  (hre:RepE P w e [.int .i64 k,.int .i64 n,.string s,.string t,.slice A0 n0 c0,.slice A1 n1 c1,.slice A2 n2 c2]) (hh:hE e≤900000) (hu:Uses w) (hT:Tab w) :
  Calls Tryz.prog 6 #[.agg #[.int .i64 k,.int .i64 n,.string s,.string t,.slice A0 n0 c0,.slice A1 n1 c1,.slice A2 n2 c2]] w fun r w'=>r=.returned (.tuple #[.string (strB (showS e).1),.int .i64 (showS e).2])∧Below w.heap.size w w':=by
 obtain ⟨W1,hW1⟩:∃ W1,w.alloc (.cells #[.int .i64 k,.int .i64 n,.string s,.string t,.slice A0 n0 c0,.slice A1 n1 c1,.slice A2 n2 c2] 27)=W1:=⟨_,rfl⟩
 have HB1:Hid (Below w.heap.size w W1):=Lib.hid (by rw [← hW1];exact (Below.refl _ _).alloc (Nat.le_refl _) _)
 have HE1:Hid (EB W1 w.heap.size (.int .i64 k) (.int .i64 n) (.string s) (.string t) (.slice A0 n0 c0) (.slice A1 n1 c1) (.slice A2 n2 c2)):=Lib.hid (by rw [← hW1];exact EB.new w _ _ _ _ _ _ _)
 have HC:=Lib.hid (Check_any chkN (Lib.hid chkN_says) P e k n s t A0 n0 c0 A1 n1 c1 A2 n2 c2 W1 (hre.keep (Same.of_below HB1.out)) hh (hu.below HB1.out))
 have HRe:Hid (∀ w',Below w.heap.size w w'→RepE (fun b=>b < w'.heap.size) w' e [.int .i64 k,.int .i64 n,.string s,.string t,.slice A0 n0 c0,.slice A1 n1 c1,.slice A2 n2 c2]):=Lib.hid (fun w' hb=>(hre.keep (Same.of_below hb)).tight.weaken (fun x hx=>hx.2))
 have HTa:Hid (∀ w',Below w.heap.size w w'→Tab w'):=Lib.hid (fun w' hb=>by
  obtain ⟨t,fr,ht⟩:=hT
  exact ⟨t,fr,(hb.block _ (Array.getElem?_eq_some_iff.1 ht).1).trans ht⟩)
 obtain ⟨V,hV⟩:∃ V,V=(msd chkN e).2.2:=⟨_,rfl⟩
 rw [← hV] at HC
 have e0:=HE1.out.c0
 have e1:=HE1.out.c1
 have e2:=HE1.out.c2
 have e3:=HE1.out.c3
 have e4:=HE1.out.c4
 have e5:=HE1.out.c5
 have e6:=HE1.out.c6
 obtain ⟨X,hX⟩:∃ X,X=showS e:=⟨_,rfl⟩
 rw [← hX]
 clear hre hh hu hT
 by_cases hv:V=0
 ·have hok:=msd_ok (hV.symm.trans hv)
  have HR:Hid (X=(textE e,0)):=Lib.hid (by rw [hX];unfold showS;exact if_pos (hV.symm.trans hv))
  have htot:tot (pcs e)+2≤3000000:=by have:=tot_pcs e hok.1 1;have:=hok.2.1;omega
  have htot2:tot (atP 0 e.lp)≤3000002:=by have:=tot_at 0 e.lp;have h2:tot e.lp.2=tot (pcs e):=rfl;omega
  have hne:=pcs_pos hok.1
  have HEx:=Lib.hid (expr_all e hok.1)
  have HAt:Hid (atP 0 e.lp=pcs e):=Lib.hid (by
   unfold atP
   refine if_pos ?_
   cases e with
   | mk k n s t ns l ops bs =>
    show 0≤lvO k s
    unfold lvO
    split
    ·cases ho:opLv s with
     | none=>exact Int.le_refl _
     | some m =>
      show 0≤m
      unfold opLv at ho
      split at ho
      ·injection ho with h;omega
      ·split at ho
       ·injection ho with h;omega
       ·split at ho
        ·injection ho with h;omega
        ·cases ho
    ·split
     ·exact Int.le_refl _
     ·split <;> decide)
  have HL:Hid (([]:Txt).length+tot (atP 0 e.lp)≤140737488355328):=Lib.hid (by show 0+_≤_;omega)
  have HW:Hid (wrs 9223372036854775807 [] (atP 0 e.lp)=textE e):=Lib.hid (by
   rw [HAt.out]
   have:=wrs_all 9223372036854775807 (pcs e) [] (by show ((0+tot (pcs e):Nat):Int)≤_;omega)
   rw [this,List.nil_append];rfl)
  have HNe:Hid (textE e≠[]):=Lib.hid (by
   intro h
   have:=flatten_len (pcs e)
   unfold textE at h
   rw [h] at this
   simp at this;omega)
  clear hV hX hok htot htot2 hne
  subst hv
  go_enter Tryz.func6,Tryz.ntmps6
  go_wp2_with fail
  clear hW1
  refine HC.out.mono ?_
  rintro r w2 ⟨rfl,hb⟩
  have HB2:=Lib.hid (HB1.out.trans (hb.mono HB1.out.size))
  have HE2:=Lib.hid (HE1.out.kept (grown_below hb none) (by simp))
  clear hb e0 e1 e2 e3 e4 e5 e6
  go_wp2_with fail
  refine (newPrinter_any 9223372036854775807 w2 (HTa.out w2 HB2.out)).mono ?_
  rintro r w3 ⟨rfl,hp3,hb3⟩
  have HB3:=Lib.hid (HB2.out.trans (hb3.mono HB2.out.size))
  have HE3:=Lib.hid (HE2.out.kept (grown_below hb3 none) (by simp))
  have HC2:=Lib.hid (HEx.out w2.heap.size w2.heap.size _ _ 9223372036854775807 [] 0 _ w3 hp3 ((HRe.out w2 HB2.out).keep (Same.of_below hb3)) HL.out)
  have HZ2:=Lib.hid HB2.out.size
  have e0:=HE3.out.c0
  have e1:=HE3.out.c1
  have e2:=HE3.out.c2
  have e3:=HE3.out.c3
  have e4:=HE3.out.c4
  have e5:=HE3.out.c5
  have e6:=HE3.out.c6
  clear hp3 hb3 HC
  go_wp2_with fail
  refine HC2.out.mono ?_
  rintro r w4 ⟨rfl,hp4⟩
  have HB4:=Lib.hid (HB3.out.trans (hp4.2.1.mono HZ2.out))
  have hpb:=Pr.pb hp4.1
  rw [HW.out] at hpb
  have HS:=Lib.hid (string_any _ _ _ _ _ w4 hpb HNe.out)
  clear hp4 hpb e0 e1 e2 e3 e4 e5 e6 HC2
  go_wp2_with fail
  refine HS.out.mono ?_
  rintro r w5 ⟨rfl,hb5⟩
  have HB5:=Lib.hid (HB4.out.trans (hb5.mono HZ2.out))
  clear hb5
  go_wp2_with fail
  go_ret2
  exact ⟨by rw [HR.out];rfl,HB5.out⟩
 ·have HR:Hid (X=([],V)):=Lib.hid (by rw [hX];unfold showS;rw [← hV];exact if_neg hv)
  have hvb:(V == 0)=false:=by simpa using hv
  clear hV hX hv
  go_enter Tryz.func6,Tryz.ntmps6
  go_wp2_with fail
  clear hW1
  refine HC.out.mono ?_
  rintro r w2 ⟨rfl,hb⟩
  have HB2:=Lib.hid (HB1.out.trans (hb.mono HB1.out.size))
  clear hb e0 e1 e2 e3 e4 e5 e6
  go_wp2_with fail
  go_ret2
  exact ⟨by rw [HR.out];rfl,HB2.out⟩
def EnvS (w:World):Prop:=Syms w∧Uses w∧Tab w
theorem EnvS.below {w w':World}(h:EnvS w)(hb:Below w.heap.size w w'):EnvS w' :=
 ⟨h.1.grown (grown_below hb none) (by simp),h.2.1.below hb,by obtain ⟨t,fr,ht⟩:=h.2.2;exact ⟨t,fr,(hb.block _ (Array.getElem?_eq_some_iff.1 ht).1).trans ht⟩⟩
theorem RepE.sOf {P:Nat→Prop}{w:World}{e:Ex}{k n:Int}{s t:ByteArray}{r:List Value}(h:RepE P w e (.int .i64 k :: .int .i64 n :: .string s :: .string t :: r)):k=e.k∧n=e.n∧s=strB e.s∧t=strB e.t:=by
 cases e
 obtain ⟨An,cn,Al,cl,Aa,ca,e,_⟩:=h
 simp only [exCells,List.cons.injEq,Value.int.injEq,Value.string.injEq,true_and] at e
 exact ⟨e.1,e.2.1,e.2.2.1,e.2.2.2.1⟩
abbrev Ky:=Int × Txt × Int
def kyOf (t:Tk):Ky:=(t.kind,t.s,t.n)
def LK (l:Txt)(ks:List Ky):Prop:=∀ f p,l.length < f→∃ xs,lexF f p l=(xs,p+l.length)∧xs.map kyOf=ks
def NW (r:Txt):Prop:=∀ c q,r=c :: q→kb c=0
theorem NW.nil:NW []:=fun _ _ h=>by cases h
theorem NW.cons {c:UInt8}{q:Txt}(h:kb c=0):NW (c :: q):=fun a b e=>by injection e with e1 _;rw [← e1];exact h
theorem LK.nil:LK [] []:=fun f p _=>⟨[],by rw [lexF_nil];rfl,rfl⟩
theorem LK.sp {r:Txt}{ks:List Ky}(h:LK r ks):LK (32 :: r) ks:=fun f p hf=>by
 cases f with
 | zero=>omega
 | succ f =>
  obtain ⟨xs,h1,h2⟩:=h (f+1) (p+1) (by simp only [List.length_cons] at hf;omega)
  refine ⟨xs,?_,h2⟩
  have hs:spLen false (32 :: r)=1+spLen false r:=by simp [spLen]
  have e:lexF (f+1) p (32 :: r)=lexF (f+1) (p+1) r:=by
   have hd:∀ k,(32 :: r).drop (1+k)=r.drop k:=fun k=>by rw [Nat.add_comm,List.drop_succ_cons]
   simp only [lexF]
   rw [hs,hd,show p+(1+spLen false r)=p+1+spLen false r by omega,show ∀ k,1+spLen false r+k=1+(spLen false r+k) by intro k;omega]
   simp only [hd]
  rw [e,h1,List.length_cons]
  congr 1
  omega
theorem LK.tok {x r:Txt}{k:Ky}{ks:List Ky}(h0:x≠[])(hs:spLen false (x++r)=0)(hp:partOf (x++r)=x)(ht:tokS x=some k)(h:LK r ks):LK (x++r) (k :: ks):=fun f p hf=>by
 cases f with
 | zero=>omega
 | succ f =>
  have hx:0 < x.length:=List.length_pos_iff.2 h0
  obtain ⟨k1,k2,k3⟩:=k
  obtain ⟨xs,h1,h2⟩:=h f (p+x.length) (by rw [List.length_append] at hf;omega)
  refine ⟨⟨k1,k2,k3,p⟩ :: xs,?_,by rw [List.map_cons,h2];rfl⟩
  have:=lexF_some (f:=f) (p:=p) (o:=p) (l:=x++r) (k:=k1) (n:=k3) (s:=k2)
  simp only [lexF]
  rw [hs,List.drop_zero,hp,ht,Nat.add_zero,Nat.zero_add,List.drop_left,h1,List.length_append]
  simp only [Prod.mk.injEq,true_and]
  omega
theorem wordLen_nw {x r:Txt}(hx:∀ c∈x,kb c≠0)(hr:NW r):wordLen (x++r)=x.length:=by
 unfold wordLen
 congr 1
 induction x with
 | nil =>
  cases r with
  | nil=>rfl
  | cons c q=>rw [List.nil_append,List.takeWhile_cons,if_neg (by rw [hr c q rfl];simp)]
 | cons c q ih=>rw [List.cons_append,List.takeWhile_cons,if_pos (by simpa using hx c (by simp)),ih (fun y hy=>hx y (by simp [hy]))]
theorem LK.word {x r:Txt}{k:Ky}{ks:List Ky}(h0:x≠[])(hx:∀ c∈x,kb c≠0)(hr:NW r)(ht:tokS x=some k)(h:LK r ks):LK (x++r) (k :: ks):=by
 refine LK.tok h0 ?_ ?_ ht h
 ·cases x with
  | nil=>exact absurd rfl h0
  | cons c q=>exact spLen_word (hx c (by simp))
 ·unfold partOf
  rw [wordLen_nw hx hr,if_neg (fun e=>h0 (List.eq_nil_of_length_eq_zero e)),List.take_left]
abbrev LvK:=Int × List Ky
def atK' (a:Int)(q:LvK):List Ky:=if a≤q.1 then q.2 else (4,[40],0) :: (q.2++[(4,[41],0)])
def nthK (l:List LvK)(i:Nat):LvK:=l.getD i (0,[])
theorem itoa_dig {n:Int}(h:0≤n∧n≤999999999):∀ c∈Lib.itoa n,kb c=3:=by
 have h1:=integerS_itoa h
 have key:∀ (l:Txt) (m n:Int),intGo m l=some n→∀ c∈l,kb c=3:=by
  intro l
  induction l with
  | nil=>intro m n _ c hc;simp at hc
  | cons x r ih =>
   intro m n hg c hc
   rw [intGo] at hg
   split at hg
   ·rename_i hk
    split at hg
    ·cases hg
    ·rcases List.mem_cons.1 hc with rfl | hc
     ·exact hk
     ·exact ih _ _ hg c hc
   ·cases hg
 exact key _ _ _ (integerS_some h1).2.1
def CellsOf (B:Nat)(w:World)(l:List Ex)(cl:List (List Value)):Prop:=cl.length=l.length∧∀ (j:Nat) (e:Ex) (c:List Value),l[j]?=some e→cl[j]?=some c→c.length=7∧(∀ u∈c,u.oneCell'=true)∧RepE (fun b=>b < B) w e c
theorem CellsOf.keep {B:Nat}{w w':World}{l:List Ex}{cl:List (List Value)}(h:CellsOf B w l cl)(hs:Same (fun b=>b < B) w w'):CellsOf B w' l cl :=
 ⟨h.1,fun j e c h1 h2=>by obtain ⟨a,b,c⟩:=h.2 j e c h1 h2;exact ⟨a,b,c.keep hs⟩⟩
theorem one_cells {k n:Int}{s t:ByteArray}{A0:Option Addr}{n0 c0:Nat}{A1:Option Addr}{n1 c1:Nat}{A2:Option Addr}{n2 c2:Nat}:∀ u∈[Value.int .i64 k,.int .i64 n,.string s,.string t,.slice A0 n0 c0,.slice A1 n1 c1,.slice A2 n2 c2],u.oneCell'=true:=by
 intro u hu
 simp only [List.mem_cons,List.not_mem_nil,or_false] at hu
 rcases hu with rfl | rfl | rfl | rfl | rfl | rfl | rfl <;> rfl
theorem CellsOf.append {B:Nat}{w:World}{l m:List Ex}{cl cm:List (List Value)}(h:CellsOf B w l cl)(k:CellsOf B w m cm):CellsOf B w (l++m) (cl++cm):=by
 refine ⟨by rw [List.length_append,List.length_append,h.1,k.1],fun j e c h1 h2=>?_⟩
 by_cases hj:j < l.length
 ·rw [List.getElem?_append_left hj] at h1
  rw [List.getElem?_append_left (by rw [h.1];exact hj)] at h2
  exact h.2 j e c h1 h2
 ·rw [List.getElem?_append_right (by omega)] at h1
  rw [List.getElem?_append_right (by rw [h.1];omega),h.1] at h2
  exact k.2 _ e c h1 h2
theorem CellsOf.take {B:Nat}{w:World}{l:List Ex}{cl:List (List Value)}(h:CellsOf B w l cl)(k:Nat):CellsOf B w (l.take k) (cl.take k):=by
 refine ⟨by rw [List.length_take,List.length_take,h.1],fun j e c h1 h2=>?_⟩
 rw [List.getElem?_take] at h1 h2
 split at h1
 ·rename_i hj
  rw [if_pos hj] at h2
  exact h.2 j e c h1 h2
 ·cases h1
theorem cflat_len {cl:List (List Value)}(h:∀ c∈cl,c.length=7):cl.flatten.length=cl.length*7:=by
 induction cl with
 | nil=>rfl
 | cons c r ih=>rw [List.flatten_cons,List.length_append,h c (by simp),ih (fun x hx=>h x (by simp [hx])),List.length_cons];omega
theorem cflat_at {cl:List (List Value)}(h:∀ c∈cl,c.length=7):∀ (j i:Nat) (c:List Value),cl[j]?=some c→i < 7→cl.flatten[j*7+i]?=c[i]?:=by
 induction cl with
 | nil=>intro j i c h1;simp at h1
 | cons a r ih =>
  intro j i c h1 hi
  have ha:=h a (by simp)
  rw [List.flatten_cons]
  cases j with
  | zero =>
   simp at h1
   subst h1
   rw [List.getElem?_append_left (by omega),Nat.zero_mul,Nat.zero_add]
  | succ j =>
   rw [List.getElem?_append_right (by omega),show (j+1)*7+i - a.length=j*7+i by omega]
   exact ih (fun x hx=>h x (by simp [hx])) j i c (by simpa using h1) hi
theorem CellsOf.seven {B:Nat}{w:World}{l:List Ex}{cl:List (List Value)}(h:CellsOf B w l cl):∀ c∈cl,c.length=7:=fun c hc=>by
 obtain ⟨j,hj,rfl⟩:=List.getElem_of_mem hc
 exact (h.2 j _ _ (List.getElem?_eq_getElem (show j < l.length by rw [← h.1];exact hj)) (List.getElem?_eq_getElem hj)).1
theorem CellsOf.one {B:Nat}{w:World}{l:List Ex}{cl:List (List Value)}(h:CellsOf B w l cl):∀ u∈cl.flatten,u.oneCell'=true:=fun u hu=>by
 obtain ⟨c,hc,hu⟩:=List.mem_flatten.1 hu
 obtain ⟨j,hj,rfl⟩:=List.getElem_of_mem hc
 exact (h.2 j _ _ (List.getElem?_eq_getElem (show j < l.length by rw [← h.1];exact hj)) (List.getElem?_eq_getElem hj)).2.1 u hu
theorem PartsAt.cellsOf {B:Nat}{w:World}{b off:Nat}{l:List Ex}(h:PartsAt B w (some ⟨b,off,none⟩) l):∃ cl,CellsOf B w l cl∧∀ (j:Nat) (u:Value),cl.flatten[j]?=some u→w.cell? ⟨b,off+j,none⟩=some u:=by
 obtain ⟨cl,hl,hc⟩:=list_of (α:=List Value) l.length (fun i c=>∃ e,l[i]?=some e∧c.length=7∧(∀ u∈c,u.oneCell'=true)∧RepE (fun b=>b < B) w e c∧∀ i' u,c[i']?=some u→w.cell? ⟨b,off+(i*7+i'),none⟩=some u) fun i hi=>by
  obtain ⟨_,k,n,s,t,A0,n0,c0,A1,n1,c1,A2,n2,c2,H⟩:=h.at (List.getElem?_eq_getElem hi)
  refine ⟨_,_,List.getElem?_eq_getElem hi,rfl,one_cells,H.rep,fun i' u hu=>?_⟩
  match i',hu with
  | 0,hu=>simp at hu;subst hu;exact H.d0
  | 1,hu=>simp at hu;subst hu;have:=H.d1;rwa [Nat.add_assoc] at this
  | 2,hu=>simp at hu;subst hu;have:=H.d2;rwa [Nat.add_assoc] at this
  | 3,hu=>simp at hu;subst hu;have:=H.d3;rwa [Nat.add_assoc] at this
  | 4,hu=>simp at hu;subst hu;have:=H.d4;rwa [Nat.add_assoc] at this
  | 5,hu=>simp at hu;subst hu;have:=H.d5;rwa [Nat.add_assoc] at this
  | 6,hu=>simp at hu;subst hu;have:=H.d6;rwa [Nat.add_assoc] at this
  | i'+7,hu=>simp at hu
 have h7:∀ c∈cl,c.length=7:=fun c hcm=>by
  obtain ⟨j,hj,rfl⟩:=List.getElem_of_mem hcm
  obtain ⟨_,_,h,_⟩:=hc j _ (List.getElem?_eq_getElem hj)
  exact h
 refine ⟨cl,⟨hl,fun j e c h1 h2=>?_⟩,fun j u hu=>?_⟩
 ·obtain ⟨e',he,a1,a2,a3,_⟩:=hc j c h2
  obtain rfl:e'=e:=Option.some.inj (he.symm.trans h1)
  exact ⟨a1,a2,a3⟩
 ·have hj:=(List.getElem?_eq_some_iff.1 hu).1
  rw [cflat_len h7] at hj
  have hjl:j / 7 < cl.length:=by omega
  obtain ⟨_,_,_,_,_,a4⟩:=hc (j / 7) _ (List.getElem?_eq_getElem hjl)
  have e1:j / 7*7+j % 7=j:=by omega
  have:=cflat_at h7 (j / 7) (j % 7) _ (List.getElem?_eq_getElem hjl) (by omega)
  rw [e1,hu] at this
  have:=a4 (j % 7) u this.symm
  rwa [e1] at this
theorem ArmsAt.cellsOf {B:Nat}{w:World}{b off:Nat}{hs:List (Txt × List Txt)}{l:List Ex}(h:ArmsAt B w (some ⟨b,off,none⟩) hs l)(hl:hs.length=l.length):∃ cl,CellsOf B w l cl∧∀ (j:Nat) (c:List Value),cl[j]?=some c→∃ k n s t A0 n0 c0 A1 n1 c1 A2 n2 c2,c=[.int .i64 k,.int .i64 n,.string s,.string t,.slice A0 n0 c0,.slice A1 n1 c1,.slice A2 n2 c2] ∧
  w.cell? ⟨b,off+j*9+2,none⟩=some (.int .i64 k)∧w.cell? ⟨b,off+j*9+3,none⟩=some (.int .i64 n)∧w.cell? ⟨b,off+j*9+4,none⟩=some (.string s)∧w.cell? ⟨b,off+j*9+5,none⟩=some (.string t)∧w.cell? ⟨b,off+j*9+6,none⟩=some (.slice A0 n0 c0)∧w.cell? ⟨b,off+j*9+7,none⟩=some (.slice A1 n1 c1)∧w.cell? ⟨b,off+j*9+8,none⟩=some (.slice A2 n2 c2):=by
 obtain ⟨cl,hcl,hc⟩:=list_of (α:=List Value) l.length (fun i c=>∃ e,l[i]?=some e∧∃ k n s t A0 n0 c0 A1 n1 c1 A2 n2 c2,c=[.int .i64 k,.int .i64 n,.string s,.string t,.slice A0 n0 c0,.slice A1 n1 c1,.slice A2 n2 c2]∧RepE (fun b=>b < B) w e c ∧
   w.cell? ⟨b,off+i*9+2,none⟩=some (.int .i64 k)∧w.cell? ⟨b,off+i*9+3,none⟩=some (.int .i64 n)∧w.cell? ⟨b,off+i*9+4,none⟩=some (.string s)∧w.cell? ⟨b,off+i*9+5,none⟩=some (.string t)∧w.cell? ⟨b,off+i*9+6,none⟩=some (.slice A0 n0 c0)∧w.cell? ⟨b,off+i*9+7,none⟩=some (.slice A1 n1 c1)∧w.cell? ⟨b,off+i*9+8,none⟩=some (.slice A2 n2 c2)) fun i hi=>by
  obtain ⟨b',off',e',_,_,hcc⟩:=h (fun h0=>by rw [h0] at hi;simp at hi)
  injection e' with e'
  injection e' with e1 e2 e3
  subst e1;subst e2
  obtain ⟨An,cn,k,n,s,t,A0,n0,c0,A1,n1,c1,A2,n2,c2,H⟩:=hcc i _ _ (List.getElem?_eq_getElem (show i < hs.length by omega)) (List.getElem?_eq_getElem hi)
  exact ⟨_,_,List.getElem?_eq_getElem hi,k,n,s,t,A0,n0,c0,A1,n1,c1,A2,n2,c2,rfl,H.rep,H.d2,H.d3,H.d4,H.d5,H.d6,H.d7,H.d8⟩
 refine ⟨cl,⟨hcl,fun j e c h1 h2=>?_⟩,fun j c h2=>?_⟩
 ·obtain ⟨e',he,k,n,s,t,A0,n0,c0,A1,n1,c1,A2,n2,c2,rfl,a3,_⟩:=hc j c h2
  obtain rfl:e'=e:=Option.some.inj (he.symm.trans h1)
  exact ⟨rfl,one_cells,a3⟩
 ·obtain ⟨e',he,k,n,s,t,A0,n0,c0,A1,n1,c1,A2,n2,c2,e,_,r⟩:=hc j c h2
  exact ⟨k,n,s,t,A0,n0,c0,A1,n1,c1,A2,n2,c2,e,r⟩
theorem CellsOf.partsAt {B base:Nat}{w:World}{l:List Ex}{cl:List (List Value)}{A:Option Addr}{c:Nat}(h:CellsOf B w l cl)(hB:B≤w.heap.size)(ho:w.ownsRow base 27 7 (.slice A l.length c) l.length cl.flatten):PartsAt w.heap.size w A l:=fun h0=>by
 rcases ho.2 with ⟨e,hz⟩ | ⟨g,cap,cur,e,hbg,hg,_⟩
 ·exact absurd (List.length_eq_zero_iff.1 hz) h0
 ·injection e with e1 e2 e3
  subst e1;subst e3
  have hlt:g < w.heap.size:=(Array.getElem?_eq_some_iff.1 hg).1
  refine ⟨g,0,rfl,hlt,hlt,fun j x hx=>?_⟩
  have hj:=(List.getElem?_eq_some_iff.1 hx).1
  have hjc:j < cl.length:=by rw [h.1];exact hj
  obtain ⟨a1,a2,a3⟩:=h.2 j x _ hx (List.getElem?_eq_getElem hjc)
  have hcell:∀ i u,i < 7→cl[j][i]?=some u→w.cell? ⟨g,0+j*7+i,none⟩=some u:=fun i u hi hu=>by
   rw [Nat.zero_add,ho.cellAt (j*7+i) (by omega),cflat_at h.seven j i _ (List.getElem?_eq_getElem hjc) hi,hu]
  obtain ⟨xk,xn,xs,xt,A0,p0,r0,A1,p1,r1,A2,p2,r2,e⟩:=a3.shape
  rw [e] at a3 hcell
  refine ⟨xk,xn,xs,xt,A0,p0,r0,A1,p1,r1,A2,p2,r2,a3.weaken (fun x hx=>by omega),hcell 0 _ (by omega) rfl,hcell 1 _ (by omega) rfl,hcell 2 _ (by omega) rfl,hcell 3 _ (by omega) rfl,hcell 4 _ (by omega) rfl,hcell 5 _ (by omega) rfl,hcell 6 _ (by omega) rfl⟩
def W0 (w:World)(b:Nat):World :=
 (((w.alloc (.cells #[.pointer (some ⟨b,0,none⟩)] 54)).alloc (.cells #[.int .i64 0,.int .i64 0,.string ⟨#[]⟩,.string ⟨#[]⟩,.slice none 0 0,.slice none 0 0,.slice none 0 0] 27)).alloc (.cells #[.int .i64 0] 3)).alloc (.cells #[.int .i64 0] 30)
theorem W0_grown (w:World)(b:Nat)(row:Option Nat):w.grownBy (W0 w b) row :=
 grown_trans (grown_trans (grown_trans (World.grownBy_alloc _ _ _) (World.grownBy_alloc _ _ _)) (World.grownBy_alloc _ _ _)) (World.grownBy_alloc _ _ _)
theorem W0_size (w:World)(b:Nat):(W0 w b).heap.size=w.heap.size+4:=by simp [W0]
theorem W0_box (w:World)(b:Nat):BoxP (W0 w b) w.heap.size b :=
 (((show BoxP (w.alloc (.cells #[.pointer (some ⟨b,0,none⟩)] 54)) w.heap.size b from heap_alloc_new w _).kept (World.grownBy_alloc _ _ none) (by simp)).kept (World.grownBy_alloc _ _ none) (by simp)).kept (World.grownBy_alloc _ _ none) (by simp)
theorem W0_E (w:World)(b:Nat):EB (W0 w b) (w.heap.size+1) (.int .i64 0) (.int .i64 0) (.string ⟨#[]⟩) (.string ⟨#[]⟩) (.slice none 0 0) (.slice none 0 0) (.slice none 0 0):=by
 have:=EB.new (w.alloc (.cells #[.pointer (some ⟨b,0,none⟩)] 54)) (.int .i64 0) (.int .i64 0) (.string ⟨#[]⟩) (.string ⟨#[]⟩) (.slice none 0 0) (.slice none 0 0) (.slice none 0 0)
 rw [World.size_alloc] at this
 exact (this.kept (World.grownBy_alloc _ _ none) (by simp)).kept (World.grownBy_alloc _ _ none) (by simp)
theorem W0_5 (w:World)(b:Nat):B1 (W0 w b) (w.heap.size+1+1) 3 (.int .i64 0):=by
 have:=B1.new ((w.alloc (.cells #[.pointer (some ⟨b,0,none⟩)] 54)).alloc (.cells #[.int .i64 0,.int .i64 0,.string ⟨#[]⟩,.string ⟨#[]⟩,.slice none 0 0,.slice none 0 0,.slice none 0 0] 27)) 3 (.int .i64 0)
 rw [World.size_alloc,World.size_alloc] at this
 exact this.kept (World.grownBy_alloc _ _ none) (by simp)
theorem W0_6 (w:World)(b:Nat):B1 (W0 w b) (w.heap.size+1+1+1) 30 (.int .i64 0):=by
 have:=B1.new (((w.alloc (.cells #[.pointer (some ⟨b,0,none⟩)] 54)).alloc (.cells #[.int .i64 0,.int .i64 0,.string ⟨#[]⟩,.string ⟨#[]⟩,.slice none 0 0,.slice none 0 0,.slice none 0 0] 27)).alloc (.cells #[.int .i64 0] 3)) 30 (.int .i64 0)
 rw [World.size_alloc,World.size_alloc,World.size_alloc] at this
 exact this
def AllTo (w:World)(b:Nat)(ex:Ex)(e:Ending)(w':World):Prop :=
 ∃ (k n:Int) (s t:ByteArray) (A0:Option Addr) (n0 c0:Nat) (A1:Option Addr) (n1 c1:Nat) (A2:Option Addr) (n2 c2:Nat),e=.returned (.tuple #[.agg #[.int .i64 k,.int .i64 n,.string s,.string t,.slice A0 n0 c0,.slice A1 n1 c1,.slice A2 n2 c2],.int .i64 0,.int .i64 0]) ∧
  RepE (fun x=>w.heap.size≤x) w' ex [.int .i64 k,.int .i64 n,.string s,.string t,.slice A0 n0 c0,.slice A1 n1 c1,.slice A2 n2 c2]∧w.grownBy w' (some b)
theorem res_all {tmps:Array Value}{w:World}{g a5 a6:Nat}{v0 v1 v2 v3 v4 v5 v6 x5 x6:Value}(h4:tmps.getD 4 undef=.pointer (some ⟨g,0,none⟩))(h5:tmps.getD 5 undef=.pointer (some ⟨a5,0,none⟩))(h6:tmps.getD 6 undef=.pointer (some ⟨a6,0,none⟩))
  (h:EB w g v0 v1 v2 v3 v4 v5 v6) (k5:B1 w a5 3 x5) (k6:B1 w a6 30 x6) :
  (results Tryz.f53 tmps).run Tryz.prog w=.ok (.tuple #[.agg #[v0,v1,v2,v3,v4,v5,v6],x5,x6]) w:=by
 have c0:=h.c0
 have c1:=h.c1
 have c2:=h.c2
 have c3:=h.c3
 have c4:=h.c4
 have c5:=h.c5
 have c6:=h.c6
 have y5:=k5.c
 have y6:=k6.c
 have h4':tmps[4]?.getD undef=.pointer (some ⟨g,0,none⟩):=by simpa using h4
 have h5':tmps[5]?.getD undef=.pointer (some ⟨a5,0,none⟩):=by simpa using h5
 have h6':tmps[6]?.getD undef=.pointer (some ⟨a6,0,none⟩):=by simpa using h6
 simp [results,Tryz.results53,go_sem,h4',h5',h6',c0,c1,c2,c3,c4,c5,c6,y5,y6]
def AllFail (w:World)(b:Nat)(pos:Int)(e:Ending)(w':World):Prop :=
 e=.returned (.tuple #[.agg #[.int .i64 0,.int .i64 0,.string ⟨#[]⟩,.string ⟨#[]⟩,.slice none 0 0,.slice none 0 0,.slice none 0 0],.int .i64 pos,.int .i64 2])∧w.grownBy w' (some b)
set_option maxRecDepth 100000 in
set_option maxHeartbeats 2000000 in
theorem readAll_fail (b g go c:Nat)(ts:List Rt)(nx:Nat)(t:Rt)(w:World)(h:PS w b g go c ts 0 0)(ht:ts[nx]?=some t)
  (HC:Hid (∀ w',PS w' b g go c ts 0 0→Calls Tryz.prog 20 #[.pointer (some ⟨b,0,none⟩)] w' (FailTo w' b g go c ts nx))) :
  Calls Tryz.prog 53 #[.pointer (some ⟨b,0,none⟩),.func (.func 20) #[] #[]] w (AllFail w b t.p):=by
 have hmf:∀ (fn:Fn) (first cap:Array Value) (w:World),(Instr.makeFunc fn first cap).run Tryz.prog w=.ok (.func fn first cap) w:=fun _ _ _ _=>rfl
 have hbl:=h.blt
 have hgl:=h.lt
 have H0:Hid (PS (W0 w b) b g go c ts 0 0):=h.kept (W0_grown w b none) (by simp) (by simp)
 have HX0:=Lib.hid (W0_box w b)
 have HE0:=Lib.hid (W0_E w b)
 have H50:=Lib.hid (W0_5 w b)
 have H60:=Lib.hid (W0_6 w b)
 have HG0:=Lib.hid (W0_grown w b (some b))
 have HZ0:=Lib.hid (W0_size w b)
 have HTn:=Lib.hid ht
 clear h ht
 go_enter_defers Tryz.func53,Tryz.ntmps53
 go_wp2_with fail
 refine (HC.out _ H0.out).mono ?_
 rintro e w2 ⟨rfl,dp,hp,hg⟩
 have hz:=HZ0.out
 have hzg:=hg.size
 have HX2:=Lib.hid (HX0.out.kept hg (by simp;omega))
 have HE2:=Lib.hid (HE0.out.kept hg (by simp;omega))
 have H52:=Lib.hid (H50.out.kept hg (by simp;omega))
 have H62:=Lib.hid (H60.out.kept hg (by simp;omega))
 have HG2:=Lib.hid (grown_trans HG0.out hg)
 have hz2:w.heap.size+4≤w2.heap.size:=by omega
 refine leaves_cons (f:=83) (args:=#[.pointer (some ⟨w.heap.size,0,none⟩),.pointer (some ⟨w.heap.size+1+1,0,none⟩),.pointer (some ⟨w.heap.size+1+1+1,0,none⟩)]) (by simp) (by simp [go_sem]) ?_
 refine (catch_fail _ _ _ b g go c ts nx dp t (.int .i64 0) _ hp HX2.out HTn.out H52.out H62.out (by omega)).mono ?_
 rintro e u' w'' ⟨rfl,rfl,w3,hb,rfl⟩
 have HE3:=HE2.out.kept (grown_below hb none) (by simp)
 have H53:=H52.out.kept (grown_below hb none) (by simp)
 have H63:=H62.out.kept (grown_below hb none) (by simp)
 have HG3:=grown_trans HG2.out (grown_below hb _)
 refine ⟨_,res_all rfl rfl rfl ((HE3.kept (grown_set _ ⟨w.heap.size+1+1,0,none⟩ _) (by simp <;> omega)).kept (grown_set _ ⟨w.heap.size+1+1+1,0,none⟩ _) (by simp <;> omega)) ((H53.set _).kept (grown_set _ ⟨w.heap.size+1+1+1,0,none⟩ _) (by simp <;> omega)) ((H63.kept (grown_set _ ⟨w.heap.size+1+1,0,none⟩ _) (by simp <;> omega)).set _),rfl,grown_new (grown_new HG3 (by omega) _) (by omega) _⟩
set_option maxRecDepth 100000 in
set_option maxHeartbeats 400000 in
theorem need_ok (b g go c:Nat)(ts:List Rt)(nx dp:Nat)(t:Rt)(s:ByteArray)(w:World)(h:PS w b g go c ts nx dp)(ht:ts[nx]?=some t)(hs:t.s=s.data.toList)(hlen:ts.length≤100000) :
  Calls Tryz.prog 87 #[.pointer (some ⟨b,0,none⟩),.string s] w fun e w'=>e=.returned (.tuple #[])∧Went w w' b g go c ts (nx+1) dp:=by
 have HS:=Lib.hid (skip_yes b g go c ts nx dp t s w h ht hs hlen)
 clear h ht hs hlen
 go_enter Tryz.func87,Tryz.ntmps87
 go_wp2_with fail
 refine HS.out.mono ?_
 rintro e w' ⟨rfl,hw⟩
 go_wp2_with fail
 go_end0
 exact ⟨rfl,hw⟩
set_option maxRecDepth 100000 in
set_option maxHeartbeats 400000 in
theorem need_fail (b g go c:Nat)(ts:List Rt)(nx dp:Nat)(t:Rt)(s:ByteArray)(w:World)(h:PS w b g go c ts nx dp)(ht:ts[nx]?=some t)(hs:t.s≠s.data.toList) :
  Calls Tryz.prog 87 #[.pointer (some ⟨b,0,none⟩),.string s] w (FailTo w b g go c ts nx):=by
 have HS:=Lib.hid (skip_no b g go c ts nx dp t s w h ht hs)
 have H:=Lib.hid h
 clear h ht hs
 go_enter Tryz.func87,Tryz.ntmps87
 go_wp2_with fail
 refine HS.out.mono ?_
 rintro e w' ⟨rfl,hb⟩
 have HF:=Lib.hid (fun w=>fail_any (.pointer (some ⟨b,0,none⟩)) w)
 go_wp2_with fail
 refine (HF.out _).mono ?_
 rintro e w1 ⟨rfl,rfl⟩
 exact ⟨rfl,rfl,dp,H.out.below hb,grown_below hb _⟩
theorem infoE:(Tryz.prog.info? 27).map (fun i=>(i.zero,i.size,i.bytes))=some (some (.agg #[.int .i64 0,.int .i64 0,.string ⟨#[]⟩,.string ⟨#[]⟩,.slice none 0 0,.slice none 0 0,.slice none 0 0]),7,120):=by kernel_rfl
theorem cell_new (w:World)(xs:List Value)(t:TypeId):∀ (j:Nat) (u:Value),xs[j]?=some u→(w.alloc (.cells xs.toArray t)).cell? ((⟨w.heap.size,0,none⟩:Addr).add j)=some u:=by
 intro j u hj
 have:=cellsAt_new w xs t j u hj
 have e:((⟨w.heap.size,0,none⟩:Addr).add j)=⟨w.heap.size,0+j,none⟩:=by
  simp only [Addr.add,Nat.zero_add]
  split <;> simp_all
 rw [e]
 exact this
def S2 (w:World)(q:Nat)(s1 s2:ByteArray):Prop:=q < w.heap.size∧w.cell? ⟨q,0,none⟩=some (.string s1)∧w.cell? ⟨q,1,none⟩=some (.string s2)
theorem S2.kept {w w':World}{q:Nat}{s1 s2:ByteArray}(h:S2 w q s1 s2){row:Option Nat}(hg:w.grownBy w' row)(hne:some q≠row):S2 w' q s1 s2 :=
 ⟨Nat.lt_of_lt_of_le h.1 hg.size,(cell_grown hg h.1 hne).trans h.2.1,(cell_grown hg h.1 hne).trans h.2.2⟩
set_option maxRecDepth 100000 in
set_option maxHeartbeats 2000000 in
theorem behind_fail (q b g go c:Nat)(ts:List Rt)(nx dp nx2:Nat)(ex:Ex)(t t2:Rt)(s1 s2:ByteArray)(w:World)(h:PS w b g go c ts nx dp)(hq:S2 w q s1 s2)(hqb:q≠b)(ht:ts[nx]?=some t)(hs1:t.s=s1.data.toList)(ht2:ts[nx2]?=some t2)(hs2:t2.s≠s2.data.toList)(hlen:ts.length≤100000)
  (HC:Hid (∀ w',PS w' b g go c ts (nx+1) dp→Calls Tryz.prog 20 #[.pointer (some ⟨b,0,none⟩)] w' (ExprTo w' b g go c ts nx2 dp ex))) :
  Calls Tryz.prog 58 #[.pointer (some ⟨b,0,none⟩),.slice (some ⟨q,0,none⟩) 2 2] w (FailTo w b g go c ts nx2):=by
 obtain ⟨i0,hi,hz0,hz1,hz2⟩:=info_parts infoE
 have HN1:=Lib.hid (fun w h=>need_ok b g go c ts nx dp t s1 w h ht hs1 hlen)
 have HN2:=Lib.hid (fun w h=>need_fail b g go c ts nx2 dp t2 s2 w h ht2 hs2)
 have H:=Lib.hid h
 have HQ:=Lib.hid hq
 have hbl:=h.blt
 clear h hq ht hs1 ht2 hs2
 go_enter Tryz.func58,Tryz.ntmps58
 go_wp2_with fail
 go_loopw [4,10] (fun v i wr=>(i=.int .i64 0∧v=.slice none 0 0∧Hid (wr=w))∨(i=.int .i64 1∧Hid (PS wr b g go c ts nx2 dp)∧Hid (S2 wr q s1 s2)∧Hid (w.grownBy wr (some b)))) (fun _ i _=>1 - (intOf i).toNat)
 case atStart=>exact .inl ⟨rfl,rfl,Lib.hid rfl⟩
 case round =>
  rcases hrel with ⟨rfl,rfl,hw⟩ | ⟨rfl,hp,hq,hg⟩
  ·obtain rfl:=hw.out
   have q0:=HQ.out.2.1
   go_wp2_with fail
   refine (HN1.out _ H.out).mono ?_
   rintro e w1 ⟨rfl,hw⟩
   have HP1:=Lib.hid hw.1
   have HQ1:=Lib.hid (HQ.out.kept hw.2 (by simp;omega))
   have HG1:=Lib.hid hw.2
   clear hw q0
   go_wp2_with fail
   refine (HC.out _ HP1.out).mono ?_
   rintro e w2 ⟨k,n,s,u,A0,n0,m0,A1,n1,m1,A2,n2,m2,rfl,hr,hw⟩
   have HP2:=Lib.hid hw.1
   have HQ2:=Lib.hid (HQ1.out.kept hw.2 (by simp;omega))
   have HG2:=Lib.hid (grown_trans HG1.out hw.2)
   have hz:=hw.2.size
   have hz1:=HG1.out.size
   clear hw hr
   go_wp2_with fail
   refine ⟨.inr ⟨rfl,?_,?_,?_⟩,?_⟩
   ·exact Lib.hid (HP2.out.kept (grown_trans (grown_trans (grown_trans (World.grownBy_alloc w2 _ _) (World.grownBy_alloc _ _ _)) (World.grownBy_alloc _ _ _)) (grown_drewN _ 1 none)) (by simp) (by simp))
   ·exact Lib.hid (HQ2.out.kept (grown_trans (grown_trans (grown_trans (World.grownBy_alloc w2 _ _) (World.grownBy_alloc _ _ _)) (World.grownBy_alloc _ _ _)) (grown_drewN _ 1 none)) (by simp))
   ·exact Lib.hid (grown_trans HG2.out (grown_trans (grown_trans (grown_trans (World.grownBy_alloc w2 _ _) (World.grownBy_alloc _ _ _)) (World.grownBy_alloc _ _ _)) (grown_drewN _ 1 _)))
   ·simp [intOf]
  ·have q1:=hq.out.2.2
   go_wp2_with fail
   refine (HN2.out _ hp.out).mono ?_
   rintro e w1 ⟨rfl,dp',hp',hg'⟩
   exact ⟨rfl,rfl,dp',hp',grown_trans hg.out hg'⟩
def PartsTo (w:World)(e:Ex)(r:Ending)(w':World):Prop:=∃ A c,r=.returned (.slice A e.parts.length c)∧PartsAt w'.heap.size w' A e.parts∧Below w.heap.size w w'
theorem own_slice {w:World}{base:Nat}{T:TypeId}{size:Nat}{v:Value}{n:Nat}{xs:List Value}(h:w.ownsRow base T size v n xs):∃ A c,v=.slice A n c:=by
 rcases h.2 with ⟨e,h0⟩ | ⟨g,cap,cur,e,_⟩
 ·exact ⟨none,0,by rw [e,h0]⟩
 ·exact ⟨_,_,e⟩
theorem wpList_append_nilE (w:World){ops:Array Oper}{rest:List Oper}{o:Oper}{a:Act}{Q:Exit→Act→World→Prop}(hgd:o.guard=none)(sl x:Operand)
  (ho:o.op=.call { callee:=.builtin .append,args:=#[sl,x],argTypes:=#[24,24] }) (g n c:Nat) (hn:n=0) (hs:a.eval sl=.slice (some ⟨g,0,none⟩) 0 0) (hx:a.eval x=.slice none n c)
  (h:wpList Tryz.prog ops Q rest (a.put o.dst (.slice (some ⟨g,0,none⟩) n n)) w):wpList Tryz.prog ops Q (o :: rest) a w:=by
 subst hn
 obtain ⟨i0,hi,_,_,_⟩:=info_parts infoE
 have hrun:(Builtin.append_ #[24,24] o.type #[.slice (some ⟨g,0,none⟩) 0 0,.slice none 0 c]).run Tryz.prog w=.ok (.slice (some ⟨g,0,none⟩) 0 0) w:=by
  simp [Builtin.append_,run_underlying Tryz.underlying24,sizeOf,typeInfo,hi,Builtin.lenOf,Builtin.firstCells,storeCells]
 refine wpList_plain hgd fun K hK=>?_
 unfold Oper.wp
 simp [execOp,ho,resolve,invoke,builtin,hs,hx,hrun,Result.andThen]
 exact hK _ _ h
set_option maxRecDepth 100000 in
set_option maxHeartbeats 4000000 in
theorem Parts_any (P:Nat→Prop)(e:Ex)(k n:Int)(s t:ByteArray)(A0:Option Addr)(n0 c0:Nat)(A1:Option Addr)(n1 c1:Nat)(A2:Option Addr)(n2 c2:Nat)(w:World)
  (hre:RepE P w e [.int .i64 k,.int .i64 n,.string s,.string t,.slice A0 n0 c0,.slice A1 n1 c1,.slice A2 n2 c2]) (hl:e.l.length≤1000∧e.bs.length≤1000) :
  Calls Tryz.prog 51 #[.agg #[.int .i64 k,.int .i64 n,.string s,.string t,.slice A0 n0 c0,.slice A1 n1 c1,.slice A2 n2 c2]] w (PartsTo w e):=by
 obtain ⟨i0,hi,hz0,hz1,hz2⟩:=info_parts infoE
 obtain ⟨W1,hW1⟩:∃ W1,w.alloc (.cells #[.int .i64 k,.int .i64 n,.string s,.string t,.slice A0 n0 c0,.slice A1 n1 c1,.slice A2 n2 c2] 27)=W1:=⟨_,rfl⟩
 have HB1:Hid (Below w.heap.size w W1):=Lib.hid (by rw [← hW1];exact (Below.refl _ _).alloc (Nat.le_refl _) _)
 have HE1:Hid (EB W1 w.heap.size (.int .i64 k) (.int .i64 n) (.string s) (.string t) (.slice A0 n0 c0) (.slice A1 n1 c1) (.slice A2 n2 c2)):=Lib.hid (by rw [← hW1];exact EB.new w _ _ _ _ _ _ _)
 have hz:w.heap.size < W1.heap.size:=HE1.out.lt
 have hre1:=(hre.keep (Same.of_below HB1.out)).tight.weaken (Q:=fun b=>b < W1.heap.size) (fun x hx=>hx.2)
 cases e with
 | mk k' n' s' t' ns l ops bs =>
 simp only [Ex.l,Ex.bs] at hl
 obtain ⟨An,cn,Al,cl',Aa,ca,e,hf,hn,hL,hA,ho⟩:=hre1
 simp only [exCells,List.cons.injEq,Value.int.injEq,Value.string.injEq,Value.slice.injEq,and_true,true_and] at e
 obtain ⟨rfl,rfl,rfl,rfl,⟨rfl,rfl,rfl⟩,⟨rfl,rfl,rfl⟩,rfl,rfl,rfl⟩:=e
 have hPL:PartsAt W1.heap.size W1 A1 l:=parts_of hL
 have hPA:ArmsAt W1.heap.size W1 A2 ops bs:=arms_of hA
 obtain ⟨clL,hcL,hmL⟩:∃ cl,CellsOf W1.heap.size W1 l cl∧(∀ ad,A1=some ad→∀ (j:Nat) (u:Value),cl.flatten[j]?=some u→W1.cell? (ad.add j)=some u):=by
  by_cases h0:l=[]
  ·subst h0
   exact ⟨[],⟨rfl,fun j e c h=>by simp at h⟩,fun ad _ j u h=>by simp at h⟩
  ·obtain ⟨b,off,rfl⟩:=hPL.addr (List.length_pos_iff.2 h0)
   obtain ⟨cl,h1,h2⟩:=hPL.cellsOf
   exact ⟨cl,h1,fun ad e j u h=>by injection e with e;subst e;rw [add_off];exact h2 j u h⟩
 obtain ⟨clB,hcB,hmB⟩:∃ cl,CellsOf W1.heap.size W1 bs cl∧(∀ (j:Nat) (c:List Value),cl[j]?=some c→∃ b off,A2=some ⟨b,off,none⟩∧b < W1.heap.size∧∃ k n s t A0 n0 c0 A1 n1 c1 A2 n2 c2,c=[.int .i64 k,.int .i64 n,.string s,.string t,.slice A0 n0 c0,.slice A1 n1 c1,.slice A2 n2 c2] ∧
   W1.cell? ⟨b,off+j*9+2,none⟩=some (.int .i64 k)∧W1.cell? ⟨b,off+j*9+3,none⟩=some (.int .i64 n)∧W1.cell? ⟨b,off+j*9+4,none⟩=some (.string s)∧W1.cell? ⟨b,off+j*9+5,none⟩=some (.string t)∧W1.cell? ⟨b,off+j*9+6,none⟩=some (.slice A0 n0 c0)∧W1.cell? ⟨b,off+j*9+7,none⟩=some (.slice A1 n1 c1)∧W1.cell? ⟨b,off+j*9+8,none⟩=some (.slice A2 n2 c2)):=by
  by_cases h0:bs=[]
  ·subst h0
   exact ⟨[],⟨rfl,fun j e c h=>by simp at h⟩,fun j c h=>by simp at h⟩
  ·obtain ⟨b,off,rfl,_,hlt,_⟩:=hPA h0
   obtain ⟨cl,h1,h2⟩:=hPA.cellsOf ho
   exact ⟨cl,h1,fun j c h=>⟨b,off,rfl,hlt,h2 j c h⟩⟩
 have HCL:=Lib.hid hcL
 have HML:=Lib.hid hmL
 have HCB:=Lib.hid hcB
 have HMB:=Lib.hid hmB
 have HNl:Hid (A1=none→l.length=0):=Lib.hid (fun h=>by
  by_cases h0:l=[]
  ·rw [h0];rfl
  ·obtain ⟨b,off,e⟩:=hPL.addr (List.length_pos_iff.2 h0)
   rw [h] at e;cases e)
 obtain ⟨nl,hnl⟩:∃ q,q=l.length:=⟨_,rfl⟩
 obtain ⟨nb,hnb⟩:∃ q,q=bs.length:=⟨_,rfl⟩
 have HNL:=Lib.hid hnl
 have HNB:=Lib.hid hnb
 have HFL:Hid (clL.flatten.length=nl*7):=Lib.hid (by rw [cflat_len hcL.seven,hcL.1,hnl])
 obtain ⟨hl1,hl2⟩:=hl
 rw [← hnl] at hl1 hW1 HE1 HNl ⊢
 rw [← hnb] at hl2 hW1 HE1 ⊢
 have e5:=HE1.out.c5
 clear hre hL hA hPL hPA hcL hmL hcB hmB hnl hnb hf hn ho
 have HO1:Hid ((W1.alloc (.cells #[] 27)).ownsRow W1.heap.size 27 7 (.slice (some ⟨W1.heap.size,0,none⟩) 0 0) 0 []):=Lib.hid ⟨rfl,.inr ⟨W1.heap.size,0,#[],rfl,Nat.le_refl _,heap_alloc_new W1 _,Nat.le_refl _,Nat.zero_le _,rfl,rfl⟩⟩
 have HBA:Hid (Below W1.heap.size W1 (W1.alloc (.cells #[] 27))):=Lib.hid ((Below.refl _ _).alloc (Nat.le_refl _) _)
 have HMb:Hid (∀ ad,A1=some ad→∀ (j:Nat) (u:Value),clL.flatten[j]?=some u→(W1.alloc (.cells #[] 27)).cell? (ad.add j)=some u):=Lib.hid (fun ad e j u h=>by
  have h1:=HML.out ad e j u h
  exact (HBA.out.cell (World.block_lt_of_cell? W1 _ h1)).trans h1)
 go_enter Tryz.func51,Tryz.ntmps51
 rcases A1 with _ | ad
 ·have HN0:=Lib.hid (HNl.out rfl)
  go_wp2_with (at_builtin;refine wpList_append_nilE _ rfl _ _ rfl W1.heap.size nl c1 HN0.out rfl rfl ?_)
  have HO2:Hid ((W1.alloc (.cells #[] 27)).ownsRow W1.heap.size 27 7 (.slice (some ⟨W1.heap.size,0,none⟩) nl nl) nl clL.flatten):=Lib.hid (by
   have h1:=HO1.out
   have h2:clL.flatten=[]:=List.eq_nil_of_length_eq_zero (by rw [HFL.out,HN0.out])
   rw [h2,HN0.out];exact h1)
  have HB2:=HBA
  obtain ⟨A',hA'⟩:∃ A',A'=some (⟨W1.heap.size,0,none⟩:Addr):=⟨_,rfl⟩
  obtain ⟨c',hc'⟩:∃ c',c'=nl:=⟨_,rfl⟩
  obtain ⟨w2,hw2⟩:∃ w2,w2=W1.alloc (.cells #[] 27):=⟨_,rfl⟩
  rw [show (Value.slice (some ⟨W1.heap.size,0,none⟩) nl nl)=.slice A' nl c' by rw [hA',hc']] at HO2 ⊢
  rw [← hw2] at HO2 HB2 ⊢
  clear hA' hc' hw2 HO1 HBA HMb
  go_loopw [3,4] (fun v i wr=>∃ (kk:Nat) (A:Option Addr) (c:Nat),kk≤nb∧i=.int .i64 (kk:Int)∧v=.slice A (nl+kk) c∧Hid (wr.ownsRow W1.heap.size 27 7 (.slice A (nl+kk) c) (nl+kk) (clL++clB.take kk).flatten)∧Hid (Below W1.heap.size W1 wr)) (fun _ i _=>nb - (intOf i).toNat)
  case atStart=>exact ⟨0,A',c',Nat.zero_le _,rfl,rfl,Lib.hid (by rw [List.take_zero,List.append_nil];exact HO2.out),HB2⟩
  case round =>
   obtain ⟨kk,A,c,hkk,rfl,rfl,hO,hB⟩:=hrel
   have j0:(0:Int)≤(kk:Int):=by omega
   have hzr:w.heap.size < wr.heap.size:=Nat.lt_of_lt_of_le hz hB.out.size
   have HEr:=Lib.hid (HE1.out.kept (grown_below hB.out none) (by simp))
   have g6:=HEr.out.c6
   by_cases hkl:kk < nb
   ·have j1:(kk:Int) < (nb:Int):=by omega
    have hkc:kk < clB.length:=by rw [HCB.out.1,← HNB.out];exact hkl
    obtain ⟨b,off,rfl,hlt,k0,n0',s0,t0,B0,q0,r0,B1,q1,r1,B2,q2,r2,hce,d0,d1,d2,d3,d4,d5,d6⟩:=HMB.out kk _ (List.getElem?_eq_getElem hkc)
    have hltr:b < wr.heap.size:=Nat.lt_of_lt_of_le hlt hB.out.size
    have f0:=(hB.out.cell (p:=⟨b,_,none⟩) hlt).trans d0
    have f1:=(hB.out.cell (p:=⟨b,_,none⟩) hlt).trans d1
    have f2:=(hB.out.cell (p:=⟨b,_,none⟩) hlt).trans d2
    have f3:=(hB.out.cell (p:=⟨b,_,none⟩) hlt).trans d3
    have f4:=(hB.out.cell (p:=⟨b,_,none⟩) hlt).trans d4
    have f5:=(hB.out.cell (p:=⟨b,_,none⟩) hlt).trans d5
    have f6:=(hB.out.cell (p:=⟨b,_,none⟩) hlt).trans d6
    have HFk:Hid ((clL++clB.take (kk+1)).flatten=(clL++clB.take kk).flatten++[.int .i64 k0,.int .i64 n0',.string s0,.string t0,.slice B0 q0 r0,.slice B1 q1 r1,.slice B2 q2 r2]):=Lib.hid (by
     rw [take_succ_of hkc,← List.append_assoc,List.flatten_append,hce];simp)
    have HNc:Hid (∀ (j:Nat) (u:Value),([Value.int .i64 k0,.int .i64 n0',.string s0,.string t0,.slice B0 q0 r0,.slice B1 q1 r1,.slice B2 q2 r2]:List Value)[j]?=some u→(wr.alloc (.cells #[.int .i64 k0,.int .i64 n0',.string s0,.string t0,.slice B0 q0 r0,.slice B1 q1 r1,.slice B2 q2 r2] 27)).cell? ((⟨wr.heap.size,0,none⟩:Addr).add j)=some u):=Lib.hid (fun j u h=>by
     rw [add_off,Nat.zero_add]
     have:=heap_alloc_new wr (.cells #[.int .i64 k0,.int .i64 n0',.string s0,.string t0,.slice B0 q0 r0,.slice B1 q1 r1,.slice B2 q2 r2] 27)
     simp only [World.cell?,this]
     simpa using h)
    have HOa:=Lib.hid (hO.out.alloc (.cells #[.int .i64 k0,.int .i64 n0',.string s0,.string t0,.slice B0 q0 r0,.slice B1 q1 r1,.slice B2 q2 r2] 27))
    clear d0 d1 d2 d3 d4 d5 d6 hce
    go_wp2_with (at_builtin;refine wpList_append_own _ rfl _ _ 24 rfl W1.heap.size 27 i0 (.agg #[.int .i64 0,.int .i64 0,.string ⟨#[]⟩,.string ⟨#[]⟩,.slice none 0 0,.slice none 0 0,.slice none 0 0]) 7 120 Tryz.underlying24 hi hz0 hz1 hz2 rfl (by decide) _ _ _ rfl HOa.out ⟨wr.heap.size,0,none⟩ 1 1 [.int .i64 k0,.int .i64 n0',.string s0,.string t0,.slice B0 q0 r0,.slice B1 q1 r1,.slice B2 q2 r2] rfl rfl HNc.out one_cells (by unfold maxLen;omega) (by omega) (by have:=hB.out.size;simp;omega) ?_;intro v' w2 hown' hgrow _;obtain ⟨A3,c3,rfl⟩:=own_slice hown';have HO3:=Lib.hid hown';have HG3:=Lib.hid hgrow;clear hown' hgrow)
    have HB3:Hid (Below W1.heap.size W1 w2):=Lib.hid ((hB.out.alloc hB.out.size _).grown HG3.out (by have:=hB.out.size;simp;omega) (fun q e=>(HOa.out.lt q e).1))
    go_roundw
    case rel=>exact ⟨kk+1,A3,c3,by omega,by go_num,rfl,Lib.hid (by rw [HFk.out];exact HO3.out),HB3⟩
    case measure=>simp [intOf];omega
   ·obtain rfl:kk=nb:=by omega
    have HPt:Hid (PartsTo w (.mk k n s' t' ns l ops bs) (.returned (.slice A (nl+kk) c)) wr):=Lib.hid (by
     have hcc:CellsOf W1.heap.size wr (l++bs) (clL++clB):=(HCL.out.append HCB.out).keep (Same.of_below hB.out)
     have h1:=hO.out
     have hlen:nl+kk=(l++bs).length:=by rw [List.length_append,HNL.out,HNB.out]
     rw [show clB.take kk=clB from List.take_of_length_le (by rw [HCB.out.1,HNB.out];exact Nat.le_refl _),hlen] at h1
     refine ⟨A,c,by rw [hlen];rfl,hcc.partsAt hB.out.size h1,HB1.out.trans (hB.out.mono HB1.out.size)⟩)
    go_wp2_with fail
    go_ret
    exact HPt.out
 ·have HMa:=Lib.hid (HMb.out ad rfl)
  go_wp2_with (at_builtin;refine wpList_append_own _ rfl _ _ 24 rfl W1.heap.size 27 i0 (.agg #[.int .i64 0,.int .i64 0,.string ⟨#[]⟩,.string ⟨#[]⟩,.slice none 0 0,.slice none 0 0,.slice none 0 0]) 7 120 Tryz.underlying24 hi hz0 hz1 hz2 rfl (by decide) _ _ _ rfl HO1.out ad nl c1 clL.flatten rfl HFL.out HMa.out HCL.out.one (by unfold maxLen;omega) (by omega) (by simp) ?_;intro v' w2 hown' hgrow _;have hown2:w2.ownsRow W1.heap.size 27 7 v' nl clL.flatten:=(by simpa using hown');obtain ⟨A',c',rfl⟩:=own_slice hown2;have HO2:=Lib.hid hown2;have HG2:=Lib.hid hgrow;clear hown' hown2 hgrow)
  have HB2:Hid (Below W1.heap.size W1 w2):=Lib.hid (HBA.out.grown HG2.out (by simp) (fun q e=>(HO1.out.lt q e).1))
  clear HO1 HBA HMb HMa HG2
  go_loopw [3,4] (fun v i wr=>∃ (kk:Nat) (A:Option Addr) (c:Nat),kk≤nb∧i=.int .i64 (kk:Int)∧v=.slice A (nl+kk) c∧Hid (wr.ownsRow W1.heap.size 27 7 (.slice A (nl+kk) c) (nl+kk) (clL++clB.take kk).flatten)∧Hid (Below W1.heap.size W1 wr)) (fun _ i _=>nb - (intOf i).toNat)
  case atStart=>exact ⟨0,A',c',Nat.zero_le _,rfl,rfl,Lib.hid (by rw [List.take_zero,List.append_nil];exact HO2.out),HB2⟩
  case round =>
   obtain ⟨kk,A,c,hkk,rfl,rfl,hO,hB⟩:=hrel
   have j0:(0:Int)≤(kk:Int):=by omega
   have hzr:w.heap.size < wr.heap.size:=Nat.lt_of_lt_of_le hz hB.out.size
   have HEr:=Lib.hid (HE1.out.kept (grown_below hB.out none) (by simp))
   have g6:=HEr.out.c6
   by_cases hkl:kk < nb
   ·have j1:(kk:Int) < (nb:Int):=by omega
    have hkc:kk < clB.length:=by rw [HCB.out.1,← HNB.out];exact hkl
    obtain ⟨b,off,rfl,hlt,k0,n0',s0,t0,B0,q0,r0,B1,q1,r1,B2,q2,r2,hce,d0,d1,d2,d3,d4,d5,d6⟩:=HMB.out kk _ (List.getElem?_eq_getElem hkc)
    have hltr:b < wr.heap.size:=Nat.lt_of_lt_of_le hlt hB.out.size
    have f0:=(hB.out.cell (p:=⟨b,_,none⟩) hlt).trans d0
    have f1:=(hB.out.cell (p:=⟨b,_,none⟩) hlt).trans d1
    have f2:=(hB.out.cell (p:=⟨b,_,none⟩) hlt).trans d2
    have f3:=(hB.out.cell (p:=⟨b,_,none⟩) hlt).trans d3
    have f4:=(hB.out.cell (p:=⟨b,_,none⟩) hlt).trans d4
    have f5:=(hB.out.cell (p:=⟨b,_,none⟩) hlt).trans d5
    have f6:=(hB.out.cell (p:=⟨b,_,none⟩) hlt).trans d6
    have HFk:Hid ((clL++clB.take (kk+1)).flatten=(clL++clB.take kk).flatten++[.int .i64 k0,.int .i64 n0',.string s0,.string t0,.slice B0 q0 r0,.slice B1 q1 r1,.slice B2 q2 r2]):=Lib.hid (by
     rw [take_succ_of hkc,← List.append_assoc,List.flatten_append,hce];simp)
    have HNc:Hid (∀ (j:Nat) (u:Value),([Value.int .i64 k0,.int .i64 n0',.string s0,.string t0,.slice B0 q0 r0,.slice B1 q1 r1,.slice B2 q2 r2]:List Value)[j]?=some u→(wr.alloc (.cells #[.int .i64 k0,.int .i64 n0',.string s0,.string t0,.slice B0 q0 r0,.slice B1 q1 r1,.slice B2 q2 r2] 27)).cell? ((⟨wr.heap.size,0,none⟩:Addr).add j)=some u):=Lib.hid (fun j u h=>by
     rw [add_off,Nat.zero_add]
     have:=heap_alloc_new wr (.cells #[.int .i64 k0,.int .i64 n0',.string s0,.string t0,.slice B0 q0 r0,.slice B1 q1 r1,.slice B2 q2 r2] 27)
     simp only [World.cell?,this]
     simpa using h)
    have HOa:=Lib.hid (hO.out.alloc (.cells #[.int .i64 k0,.int .i64 n0',.string s0,.string t0,.slice B0 q0 r0,.slice B1 q1 r1,.slice B2 q2 r2] 27))
    clear d0 d1 d2 d3 d4 d5 d6 hce
    go_wp2_with (at_builtin;refine wpList_append_own _ rfl _ _ 24 rfl W1.heap.size 27 i0 (.agg #[.int .i64 0,.int .i64 0,.string ⟨#[]⟩,.string ⟨#[]⟩,.slice none 0 0,.slice none 0 0,.slice none 0 0]) 7 120 Tryz.underlying24 hi hz0 hz1 hz2 rfl (by decide) _ _ _ rfl HOa.out ⟨wr.heap.size,0,none⟩ 1 1 [.int .i64 k0,.int .i64 n0',.string s0,.string t0,.slice B0 q0 r0,.slice B1 q1 r1,.slice B2 q2 r2] rfl rfl HNc.out one_cells (by unfold maxLen;omega) (by omega) (by have:=hB.out.size;simp;omega) ?_;intro v' w2 hown' hgrow _;obtain ⟨A3,c3,rfl⟩:=own_slice hown';have HO3:=Lib.hid hown';have HG3:=Lib.hid hgrow;clear hown' hgrow)
    have HB3:Hid (Below W1.heap.size W1 w2):=Lib.hid ((hB.out.alloc hB.out.size _).grown HG3.out (by have:=hB.out.size;simp;omega) (fun q e=>(HOa.out.lt q e).1))
    go_roundw
    case rel=>exact ⟨kk+1,A3,c3,by omega,by go_num,rfl,Lib.hid (by rw [HFk.out];exact HO3.out),HB3⟩
    case measure=>simp [intOf];omega
   ·obtain rfl:kk=nb:=by omega
    have HPt:Hid (PartsTo w (.mk k n s' t' ns l ops bs) (.returned (.slice A (nl+kk) c)) wr):=Lib.hid (by
     have hcc:CellsOf W1.heap.size wr (l++bs) (clL++clB):=(HCL.out.append HCB.out).keep (Same.of_below hB.out)
     have h1:=hO.out
     have hlen:nl+kk=(l++bs).length:=by rw [List.length_append,HNL.out,HNB.out]
     rw [show clB.take kk=clB from List.take_of_length_le (by rw [HCB.out.1,HNB.out];exact Nat.le_refl _),hlen] at h1
     refine ⟨A,c,by rw [hlen];rfl,hcc.partsAt hB.out.size h1,HB1.out.trans (hB.out.mono HB1.out.size)⟩)
    go_wp2_with fail
    go_ret
    exact HPt.out
def Sub (q ps:List Txt)(n:Nat):Prop:=∃ a b,ps=a++(q++b)∧n≤tot a+tot b
theorem Sub.self (q:List Txt):Sub q q 0:=⟨[],[],by simp,Nat.zero_le _⟩
theorem Sub.left {q xs:List Txt}{n:Nat}(h:Sub q xs n)(ys:List Txt):Sub q (xs++ys) (n+tot ys):=by
 obtain ⟨a,b,rfl,hn⟩:=h
 exact ⟨a,b++ys,by simp,by rw [tot_append];omega⟩
theorem Sub.right {q ys:List Txt}{n:Nat}(xs:List Txt)(h:Sub q ys n):Sub q (xs++ys) (tot xs+n):=by
 obtain ⟨a,b,rfl,hn⟩:=h
 exact ⟨xs++a,b,by simp,by rw [tot_append];omega⟩
theorem Sub.mono {q ps:List Txt}{n k:Nat}(h:Sub q ps n)(hk:k≤n):Sub q ps k:=by
 obtain ⟨a,b,e,hn⟩:=h
 exact ⟨a,b,e,by omega⟩
theorem Sub.atP (a:Int)(q:LvP):Sub q.2 (atP a q) 0:=by
 unfold Proofs.YtpjabnemkmdobaaGreatDoor.atP
 split
 ·exact Sub.self _
 ·exact ((Sub.self q.2).left [[41]] |>.right [[40]]).mono (Nat.zero_le _)
theorem Sub.behind:∀ (l:List LvP) (ts:List Txt) (q:LvP),q∈l→l.length≤ts.length→(∀ t∈ts,0 < t.length)→Sub q.2 (behindP l ts) 1
 | [],_,_,h,_,_=>by simp at h
 | a :: r,[],_,_,hl,_=>by simp at hl
 | a :: r,t :: ts,q,h,hl,ht=>by
  have h1:=ht t (by simp)
  have h2:tot [t]=t.length:=rfl
  unfold behindP
  rcases List.mem_cons.1 h with rfl | h
  ·exact (((Sub.atP 0 q).left (behindP r ts)).right [t]).mono (by omega)
  ·exact (((Sub.behind r ts q h (by simpa using hl) (fun x hx=>ht x (by simp [hx]))).right (Proofs.YtpjabnemkmdobaaGreatDoor.atP 0 a)).right [t]).mono (by omega)
theorem Sub.list (sep:Txt):∀ (xs:List (List Txt)) (q:List Txt),(∃ x∈xs,Sub q x 0)→Sub q (listP sep xs) 0
 | [],q,h=>by obtain ⟨x,hx,_⟩:=h;simp at hx
 | y :: r,q,h=>by
  obtain ⟨x,hx,hs⟩:=h
  unfold listP
  rcases List.mem_cons.1 hx with rfl | hx
  ·exact (hs.left _).mono (Nat.zero_le _)
  ·have key:∀ r:List (List Txt),x∈r→Sub q (r.flatMap fun y=>[sep]++y) 0:=by
    intro r
    induction r with
    | nil=>intro h;simp at h
    | cons z r ih =>
     intro h
     rw [List.flatMap_cons]
     rcases List.mem_cons.1 h with rfl | h
     ·exact ((hs.right [sep]).left _).mono (Nat.zero_le _)
     ·exact ((ih h).right _).mono (Nat.zero_le _)
   exact ((key r hx).right _).mono (Nat.zero_le _)
theorem Sub.braces {hs:List (Txt × List Txt)}{l:List LvP}{q:LvP}(h:q∈l)(hl:hs.length=l.length):Sub q.2 (bracesP hs l) 1:=by
 obtain ⟨j,hj,rfl⟩:=List.getElem_of_mem h
 unfold bracesP
 have h1:Sub l[j].2 (armP (hs[j]'(by omega)) l[j]) 0:=by
  unfold armP
  exact ((((Sub.atP 0 l[j]).right _).right _).right _).mono (Nat.zero_le _)
 have h2:=Sub.list [59,32] (List.zipWith armP hs l) l[j].2 ⟨_,List.mem_iff_getElem.2 ⟨j,by rw [List.length_zipWith];omega,List.getElem_zipWith⟩,h1⟩
 have h3:tot [([123,32]:Txt)]=2:=rfl
 exact ((h2.left _).right [[123,32]]).mono (by omega)
def maxD:Int→List (Int × Ex)→Int
 | m,[]=>m
 | m,(d,_) :: r=>maxD (max m d) r
theorem maxD_append (m:Int)(a b:List (Int × Ex)):maxD m (a++b)=maxD (maxD m a) b:=by
 induction a generalizing m with
 | nil=>rfl
 | cons x r ih=>obtain ⟨d,x⟩:=x;exact ih _
theorem maxD_ge (m:Int)(a:List (Int × Ex)):m≤maxD m a:=by
 induction a generalizing m with
 | nil=>exact Int.le_refl _
 | cons x r ih=>obtain ⟨d,x⟩:=x;have:=ih (max m d);unfold maxD;omega
mutual
theorem maxD_E:∀ (e:Ex) (m d:Int),maxD m (nodesE d e)=max m (d - 1+hE e)
 | .mk k n s t ns l ops bs,m,d=>by
  have h1:=maxD_L l (max m d) (d+1) (by omega)
  have h2:=maxD_L bs (max (max m d) (d+1 - 1+hL l)) (d+1) (by omega)
  simp only [nodesE,maxD,maxD_append]
  rw [h1,h2]
  simp only [hE]
  omega
theorem maxD_L:∀ (l:List Ex) (m d:Int),d - 1≤m→maxD m (nodesL d l)=max m (d - 1+hL l)
 | [],m,d,h=>by simp [nodesL,maxD,hL];omega
 | x :: r,m,d,h=>by
  have h1:=maxD_E x m d
  have h2:=maxD_L r (max m (d - 1+hE x)) d (by omega)
  simp only [nodesL,maxD_append,hL]
  rw [h1,h2]
  omega
end
theorem measF_maxD:∀ (L:List (Int × Ex)) (s m:Int),(measF s m L).1≤3000→(measF s m L).2≤200→(measF s m L).2=maxD m L
 | [],s,m,_,_=>by simp [measF,maxD]
 | (d,x) :: r,s,m,h1,h2=>by
  unfold measF at h1 h2 ⊢
  split at h1
  ·rename_i hc
   rw [if_pos hc] at h2
   simp only at h1 h2
   omega
  ·rename_i hc
   rw [if_neg hc] at h2 ⊢
   exact measF_maxD r _ _ h1 h2
theorem measF_val:∀ (L:List (Int × Ex)) (s m:Int),s+L.length≤3000→maxD m L≤200→measF s m L=(s+L.length,maxD m L)
 | [],s,m,_,_=>by simp [measF,maxD]
 | (d,x) :: r,s,m,h1,h2=>by
  unfold measF maxD at *
  have h3:=maxD_ge (max m d) r
  rw [List.length_cons] at h1
  rw [if_neg (by omega),measF_val r (s+1) (max m d) (by omega) h2,List.length_cons]
  congr 1
  omega
theorem msd_iff {e:Ex}:(msd chkN e).2.2=0↔wfE e∧(nodesE 1 e).length≤3000∧hE e≤200:=by
 have hm:=maxD_E e 0 1
 constructor
 ·intro h
  obtain ⟨h1,h2,h3,h4⟩:=msd_ok h
  refine ⟨h1,h2,?_⟩
  unfold msd at h
  split at h
  ·cases h
  ·rename_i hc
   have:=measF_maxD (nodesE 1 e) 0 0 (by omega) (by omega)
   omega
 ·rintro ⟨h1,h2,h3⟩
  have hv:=measF_val (nodesE 1 e) 0 0 (by omega) (by omega)
  have hf:firstF chkN (nodesE 1 e)=0:=by
   have key:∀ L:List (Int × Ex),(∀ q∈L,chkN q.2=0)→firstF chkN L=0:=by
    intro L
    induction L with
    | nil=>intro _;rfl
    | cons q r ih=>intro h;obtain ⟨d,x⟩:=q;unfold firstF;rw [if_pos (h (d,x) (by simp))];exact ih (fun q hq=>h q (by simp [hq]))
   exact key _ h1
  unfold msd
  rw [hv,if_neg (by simp only;omega),if_pos hf]
theorem msd_val {e:Ex}(h:(msd chkN e).2.2=0):msd chkN e=(((nodesE 1 e).length:Int),(hE e:Int),0):=by
 obtain ⟨h1,h2,h3⟩:=msd_iff.1 h
 obtain ⟨_,_,g3,g4⟩:=msd_ok h
 have hm:=maxD_E e 0 1
 have hv:=measF_val (nodesE 1 e) 0 0 (by omega) (by omega)
 rw [hv] at g4
 have e1:(msd chkN e).2.1=(hE e:Int):=by rw [g4];simp only;omega
 calc msd chkN e=((msd chkN e).1,(msd chkN e).2.1,(msd chkN e).2.2):=rfl
  _=_:=by rw [g3,e1,h]
theorem nodesL_len (l:List Ex)(d:Int):(nodesL d l).length=(l.map fun x=>(nodesE 1 x).length).sum:=by
 induction l with
 | nil=>rfl
 | cons x r ih=>simp only [nodesL,List.length_append,List.map_cons,List.sum_cons];rw [ih,nodesE_len d 1 x]
theorem size_parts (e:Ex):(nodesE 1 e).length=1+(e.parts.map fun x=>(nodesE 1 x).length).sum:=by
 cases e with
 | mk k n s t ns l ops bs =>
  simp only [nodesE,List.length_cons,List.length_append,nodesL_len,Ex.parts,Ex.l,Ex.bs,List.map_append,List.sum_append]
  omega
theorem hL_append (a b:List Ex):hL (a++b)=max (hL a) (hL b):=by
 induction a with
 | nil=>simp [hL]
 | cons x r ih=>rw [List.cons_append,hL,hL,ih];omega
theorem depth_parts (e:Ex):hE e=1+hL e.parts:=by
 cases e with
 | mk k n s t ns l ops bs=>simp only [hE,Ex.parts,Ex.l,Ex.bs,hL_append]
end Go.Proofs.YtpjabnemkmdobaaGreatDoor
