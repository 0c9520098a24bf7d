/- Texts put together by program: RChkE RChkF RChkG RChkH RChkI RChkJ RLeftW RCheck GrOk LawBk. -/
import Derived.Test.YtpjabnemkmdobaaGreatDoorMgM
import Derived.Test.YtpjabnemkmdobaaGreatDoorMgE
import Derived.Deep.LoopGhost
import Derived.Test.YtpjabnemkmdobaaGreatDoorMgG
import Derived.Test.YtpjabnemkmdobaaGreatDoorMgL
namespace Go.Proofs.YtpjabnemkmdobaaGreatDoor
open Go.RowKit
set_option maxRecDepth 100000 in
set_option maxHeartbeats 8000000 in
theorem armsH_any (k n0:Int)(s t:ByteArray)(v4 v5:Value)(A:Option Addr)(c:Nat)(ops:Hds)(w:World)(hkb:(k == 11)=false)(h:ArmsHd w A ops)(hl:ops.length≤c∧c≤maxLen)(hl9:∀ o∈ops,o.2.length≤1000) :
  Calls Tryz.prog 81 #[.agg #[.int .i64 k,.int .i64 n0,.string s,.string t,v4,v5,.slice A ops.length c]] w fun e w'=>e=.returned (.int .i64 (armsErr 2 [] ops))∧Below w.heap.size w w':=by
 have HN:=Lib.hid h
 have hkn:(k != 11)=true:=by unfold bne;rw [hkb];rfl
 clear hkb
 have HL9:=Lib.hid hl9
 obtain ⟨n,hn⟩:∃ n,n=ops.length:=⟨_,rfl⟩
 have HL:=Lib.hid hn
 unfold maxLen at hl
 obtain ⟨hl1,hl2⟩:=hl
 rw [← hn] at hl1 ⊢
 have hl3:n≤2 ^ 63 - 1:=Nat.le_trans hl1 hl2
 obtain ⟨a,ha⟩:∃ a:Int,a=2:=⟨_,rfl⟩
 have HA2:=Lib.hid ha
 obtain ⟨R,hR⟩:∃ R,R=armsErr 2 [] ops:=⟨_,rfl⟩
 have HR:Hid (R=armsErr a [] ops):=Lib.hid (by rw [hR,ha])
 rw [← hR]
 obtain ⟨W1,hW1⟩:∃ W1,w.alloc (.cells #[.int .i64 k,.int .i64 n0,.string s,.string t,v4,v5,.slice A n c] 27)=W1:=⟨_,rfl⟩
 have HB1:Hid (Below w.heap.size w W1):=Lib.hid (by rw [← hW1];exact (Below.refl w.heap.size w).alloc (Nat.le_refl _) _)
 have HE1:Hid (EB W1 w.heap.size (.int .i64 k) (.int .i64 n0) (.string s) (.string t) v4 v5 (.slice A n c)):=Lib.hid (by rw [← hW1];exact EB.new w _ _ _ _ _ _ _)
 have hz:w.heap.size < W1.heap.size:=HE1.out.lt
 have HA:Hid (∀ wr,Below W1.heap.size W1 wr→ArmsHd wr A ops):=Lib.hid (fun wr hb=>(HN.out.below HB1.out).below hb)
 have e0:=HE1.out.c0
 have e6:=HE1.out.c6
 clear h hl9 hn hR ha
 go_enter Tryz.func81,Tryz.ntmps81
 go_wp2_with fail
 clear hW1
 go_loopg [4] n (fun g i wr=>∃ kk:Nat,Hid (kk+g=n)∧i=.int .i64 (kk:Int)∧Hid (Below W1.heap.size W1 wr)∧Hid (R=armsErr a (ops.take kk) (ops.drop kk)))
 case atStart=>exact ⟨0,Lib.hid (by omega),rfl,Lib.hid (Below.refl _ _),Lib.hid (by rw [HR.out];rfl)⟩
 case round =>
  obtain ⟨kk,HG,rfl,hB,hE⟩:=hrel
  have hk:kk≤n:=by have:=HG.out;omega
  have i0:(0:Int)≤(kk:Int):=by omega
  have HEr:=Lib.hid (HE1.out.kept (grown_below hB.out none) (by simp))
  clear e0 e6
  have e0:=HEr.out.c0
  have e6:=HEr.out.c6
  have hzr:w.heap.size < wr.heap.size:=HEr.out.lt
  by_cases hkl:kk < n
  ·have hkl':kk < ops.length:=by rw [← HL.out];exact hkl
   obtain ⟨b,off,rfl,hlt,hcc⟩:=HA.out wr hB.out (List.ne_nil_of_length_pos (by omega))
   obtain ⟨ok1,ok2,An,cn,k0,m0,s0,t0,B0,y0,z0,B1,y1,z1,B2,y2,z2,hn1,hn2,hnm,a0,a1,a2,a3,a4,a5,a6,a7,a8⟩:=hcc kk _ (List.getElem?_eq_getElem hkl')
   obtain ⟨o,ho⟩:∃ o,o=ops[kk]:=⟨_,rfl⟩
   rw [← ho] at ok1 ok2 hn1 hnm a0 a1
   have hm9:o.2.length≤1000:=HL9.out o (by rw [ho];exact List.getElem_mem hkl')
   obtain ⟨S,hS⟩:∃ S,S=strB o.1:=⟨_,rfl⟩
   obtain ⟨m,hm⟩:∃ m,m=o.2.length:=⟨_,rfl⟩
   rw [← hS] at a0
   rw [← hm] at a1
   have i1:(kk:Int) < (n:Int):=by omega
   have HO:=Lib.hid ho
   have HS:=Lib.hid hS
   have HM:=Lib.hid hm
   have HD:Hid (ops.drop kk=o :: ops.drop (kk+1)):=Lib.hid (by rw [ho];exact List.drop_eq_getElem_cons hkl')
   have HT:Hid (ops.take (kk+1)=ops.take kk++[o]):=Lib.hid (by rw [List.take_add_one,List.getElem?_eq_getElem hkl',ho];rfl)
   have HF:Hid ((ops.take kk).isEmpty=((kk:Int) == 0)):=Lib.hid (by
    by_cases h0:kk=0
    ·subst h0;rfl
    ·rw [show ((kk:Int) == 0)=false by simp;omega,List.isEmpty_eq_false_iff]
     intro e
     have:=congrArg List.length e
     rw [List.length_take,List.length_nil] at this
     omega)
   obtain ⟨qu,hqu⟩:∃ q,q=isNm 2 o.1:=⟨_,rfl⟩
   obtain ⟨qv,hqv⟩:∃ q,q=isV o.1:=⟨_,rfl⟩
   obtain ⟨qr,hqr⟩:∃ q,q=(o.1 == retW):=⟨_,rfl⟩
   have HQr:=Lib.hid hqr
   have HU:Hid (∀ wx,Calls Tryz.prog 79 #[.string S,.int .i64 2] wx fun e w'=>e=.returned (.bool qu)∧Below wx.heap.size wx w'):=Lib.hid (fun wx=>by rw [hS,hqu];exact class_any o.1 2 wx ok1)
   have HV:Hid (∀ wx,Calls Tryz.prog 79 #[.string S,.int .i64 1] wx fun e w'=>e=.returned (.bool qv)∧Below wx.heap.size wx w'):=Lib.hid (fun wx=>by rw [hS,hqv];exact class_any o.1 1 wx ok1)
   have hrs:(S.toList == [114,101,116,117,114,110])=qr:=by rw [hS,ByteArray.toList_eq,data_strB,hqr];rfl
   have HY:=Lib.hid (fun wx (hb:Below wr.heap.size wr wx)=>distinct_any (fun _=>True) An cn o.2 wx (hnm.keep (Same.of_below hb)) ⟨hn1,hn2⟩ hm9 ok2)
   have HE:Hid (R=if armErr a qu qv o.1 m ((kk:Int) == 0)=0 then (if nmErr 1 [] o.2=0 then (if ((ops.take kk).map (·.1)).contains o.1=true then 5 else armsErr a (ops.take (kk+1)) (ops.drop (kk+1))) else nmErr 1 [] o.2) else armErr a qu qv o.1 m ((kk:Int) == 0)):=Lib.hid (by rw [hE.out,HD.out,armsErr,HF.out,HT.out,hqu,hqv,hm];rfl)
   obtain ⟨E2,hE2⟩:∃ E2,E2=nmErr 1 [] o.2:=⟨_,rfl⟩
   rw [← hE2] at HE HY
   rw [← hm] at HY
   obtain ⟨W2,hW2⟩:∃ W2,wr.alloc (.cells #[.string S,.slice An m cn,.int .i64 k0,.int .i64 m0,.string s0,.string t0,.slice B0 y0 z0,.slice B1 y1 z1,.slice B2 y2 z2] 57)=W2:=⟨_,rfl⟩
   have HB2:Hid (Below wr.heap.size wr W2):=Lib.hid (by rw [← hW2];exact (Below.refl _ _).alloc (Nat.le_refl _) _)
   have hg:wr.heap.size < W2.heap.size:=by rw [← hW2];simp
   have HK:Hid (∀ w',Below W2.heap.size W2 w'→w'.cell? ⟨wr.heap.size,0,none⟩=some (.string S)∧w'.cell? ⟨wr.heap.size,1,none⟩=some (.slice An m cn)∧EB w' w.heap.size (.int .i64 k) (.int .i64 n0) (.string s) (.string t) v4 v5 (.slice (some ⟨b,off,none⟩) n c)∧Below wr.heap.size wr w'):=Lib.hid (fun w' hb=>by
    have hbl:=hW2 ▸ heap_alloc_new wr (.cells #[.string S,.slice An m cn,.int .i64 k0,.int .i64 m0,.string s0,.string t0,.slice B0 y0 z0,.slice B1 y1 z1,.slice B2 y2 z2] 57)
    have hbl2:=(hb.block _ hg).trans hbl
    exact ⟨cell_of_row _ _ 0 _ _ (0,0) hbl2,cell_of_row _ _ 1 _ _ (0,0) hbl2,(HEr.out.kept (grown_below HB2.out none) (by simp)).kept (grown_below hb none) (by simp),HB2.out.trans (hb.mono HB2.out.size)⟩)
   have f0:=(HK.out W2 (Below.refl _ _)).1
   have f1:=(HK.out W2 (Below.refl _ _)).2.1
   have HE3:=Lib.hid (HK.out W2 (Below.refl _ _)).2.2.1
   clear ho hS hm hqu hqv hqr hE2 hE hnm ok1 ok2 hn1
   have g0:=HE3.out.c0
   have g6:=HE3.out.c6
   have Ha1:=HA2
   by_cases hk0:kk=0
   ·have hkz:((kk:Int) == 0)=true:=by rw [hk0];rfl
    clear hk0
    cases qr
    ·have HAE:armErr a qu qv o.1 m ((kk:Int) == 0)=7:=by unfold armErr;rw [Ha1.out,if_neg (by decide),if_pos hkz,← HQr.out];rfl
     have HRm:Hid (R=7):=Lib.hid (by rw [HE.out,if_neg (by rw [HAE];decide),HAE])
     clear HAE
     go_wp2_with fail
     go_ret
     exact ⟨by rw [HRm.out];rfl,HB1.out.trans ((hB.out.trans ((HK.out _ (Below.refl _ _)).2.2.2.mono hB.out.size)).mono HB1.out.size)⟩
    ·by_cases hm1:m=1
     ·have hmb:((m:Int) == 1)=true:=by rw [hm1];rfl
      have hmn:((m:Int) != 1)=false:=by unfold bne;rw [hmb];rfl
      have HOK:Hid (armErr a qu qv o.1 m ((kk:Int) == 0)=0):=Lib.hid (by unfold armErr;rw [Ha1.out,if_neg (by decide),if_pos hkz,← HQr.out,hmb];rfl)
      clear hm1
      have HX:=Lib.hid (Below.refl W2.heap.size W2)
      clear f0 f1 g0 g6
      obtain ⟨f0,f1,hEx,hBx⟩:=HK.out _ HX.out
      have HBx:=Lib.hid hBx
      have HR3:Hid (R=if E2=0 then (if ((ops.take kk).map (·.1)).contains o.1=true then 5 else armsErr a (ops.take (kk+1)) (ops.drop (kk+1))) else E2):=Lib.hid (by rw [HE.out,if_pos HOK.out])
      have g0:=hEx.c0
      have g6:=hEx.c6
      clear hBx hEx
      go_wp2_with fail
      refine (HY.out _ HBx.out).mono ?_
      rintro e wy ⟨rfl,hby⟩
      have HY2:=Lib.hid (HX.out.trans (hby.mono HX.out.size))
      clear hby f0 f1 g0 g6
      by_cases he2:E2=0
      ·have HR4:Hid (R=if ((ops.take kk).map (·.1)).contains o.1=true then 5 else armsErr a (ops.take (kk+1)) (ops.drop (kk+1))):=Lib.hid (by rw [HR3.out,if_pos he2])
       subst he2
       clear HR3
       go_wp2_with fail
       go_loopw [8] (fun i wz=>∃ jj:Nat,jj≤kk∧i=.int .i64 (jj:Int)∧Hid (Below W2.heap.size W2 wz)∧Hid (R=if (((ops.take kk).drop jj).map (·.1)).contains o.1=true then 5 else armsErr a (ops.take (kk+1)) (ops.drop (kk+1)))) (fun i _=>kk - (intOf i).toNat)
       case atStart=>exact ⟨0,Nat.zero_le _,rfl,HY2,Lib.hid (by rw [HR4.out,List.drop_zero])⟩
       case round =>
        obtain ⟨jj,hj,rfl,hZ,hRj⟩:=hrel
        obtain ⟨f0,f1,hEx,hBx⟩:=HK.out _ hZ.out
        have HBx:=Lib.hid hBx
        have g0:=hEx.c0
        have g6:=hEx.c6
        have j0:(0:Int)≤(jj:Int):=by omega
        clear hBx hEx
        by_cases hjl:jj < kk
        ·have hjn:jj < ops.length:=by omega
         have j1:(jj:Int) < (kk:Int):=by omega
         have j2:(jj:Int) < (n:Int):=by omega
         obtain ⟨_,_,_,_,_,_,_,_,_,_,_,_,_,_,_,_,_,_,_,_,d0,_⟩:=hcc jj _ (List.getElem?_eq_getElem hjn)
         have d0:=(Below.cell (p:=⟨b,off+jj*9,none⟩) HBx.out hlt).trans d0
         obtain ⟨S2,hS2⟩:∃ S2,S2=strB (ops[jj]).1:=⟨_,rfl⟩
         obtain ⟨q5,hq5⟩:∃ q,q=((ops[jj]).1 == o.1):=⟨_,rfl⟩
         have hcmp:(S2.toList == S.toList)=q5:=by rw [hS2,HS.out,ByteArray.toList_eq,ByteArray.toList_eq,data_strB,data_strB,hq5]
         have HRk:Hid (R=if q5=true then 5 else if (((ops.take kk).drop (jj+1)).map (·.1)).contains o.1=true then 5 else armsErr a (ops.take (kk+1)) (ops.drop (kk+1))):=Lib.hid (by
          have hlt':jj < (ops.take kk).length:=by rw [List.length_take];omega
          rw [hRj.out,List.drop_eq_getElem_cons hlt',List.map_cons,List.contains_cons,List.getElem_take,hq5]
          by_cases hh:(ops[jj]).1=o.1
          ·simp [hh]
          ·have h2:¬ o.1=(ops[jj]).1:=fun e=>hh e.symm
           simp [hh,h2])
         rw [← hS2] at d0
         clear hRj hS2 hq5
         cases q5
         ·have HRm:Hid (R=if (((ops.take kk).drop (jj+1)).map (·.1)).contains o.1=true then 5 else armsErr a (ops.take (kk+1)) (ops.drop (kk+1))):=Lib.hid (by rw [HRk.out,if_neg (by simp)])
          clear HRk
          go_wp2_with fail
          go_region
          all_goals (
           go_wp2_with fail
           go_roundw
           case rel=>exact ⟨jj+1,by omega,by go_num,Lib.hid hZ.out.drew,HRm⟩
           case measure=>simp [intOf];omega)
         ·have HRm:Hid (R=5):=Lib.hid (by rw [HRk.out,if_pos rfl])
          clear HRk
          go_wp2_with fail
          go_region
          all_goals (
           go_wp2_with fail
           go_ret
           exact ⟨by rw [HRm.out];rfl,HB1.out.trans ((hB.out.trans (HBx.out.drew.mono hB.out.size)).mono HB1.out.size)⟩)
        ·obtain rfl:jj=kk:=by omega
         have HRn:Hid (R=armsErr a (ops.take (jj+1)) (ops.drop (jj+1))):=Lib.hid (by
          have:(ops.take jj).drop jj=[]:=List.drop_eq_nil_iff.2 (by rw [List.length_take];omega)
          rw [hRj.out,this];simp)
         go_wp2_with fail
         go_roundg (n - (jj+1))
         case rel=>exact ⟨jj+1,Lib.hid (by omega),by go_num,Lib.hid (hB.out.trans (HBx.out.mono hB.out.size)),HRn⟩
         case measure=>have:=HG.out;omega
      ·have HR4:Hid (R=E2):=Lib.hid (by rw [HR3.out,if_neg he2])
       have hb2:(E2 == 0)=false:=beq_eq_false_iff_ne.2 he2
       clear he2 HR3
       go_wp2_with fail
       go_ret
       exact ⟨by rw [HR4.out];rfl,HB1.out.trans ((hB.out.trans ((HK.out _ HY2.out).2.2.2.mono hB.out.size)).mono HB1.out.size)⟩
     ·have hmb:((m:Int) == 1)=false:=beq_eq_false_iff_ne.2 (by omega)
      have hmn:((m:Int) != 1)=true:=by unfold bne;rw [hmb];rfl
      have HAE:armErr a qu qv o.1 m ((kk:Int) == 0)=7:=by unfold armErr;rw [Ha1.out,if_neg (by decide),if_pos hkz,← HQr.out,hmb];rfl
      have HRm:Hid (R=7):=Lib.hid (by rw [HE.out,if_neg (by rw [HAE];decide),HAE])
      clear HAE hm1
      go_wp2_with fail
      go_ret
      exact ⟨by rw [HRm.out];rfl,HB1.out.trans ((hB.out.trans ((HK.out _ (Below.refl _ _)).2.2.2.mono hB.out.size)).mono HB1.out.size)⟩
   ·have hkz:((kk:Int) == 0)=false:=beq_eq_false_iff_ne.2 (by omega)
    by_cases hm2:m=2
    ·have hmb:((m:Int) == 2)=true:=by rw [hm2];rfl
     have hmn:((m:Int) != 2)=false:=by unfold bne;rw [hmb];rfl
     clear hm2
     have hmq:∀ q,armErr a qu q o.1 m ((kk:Int) == 0)=if q=false then 4 else 0:=fun q=>by unfold armErr;rw [Ha1.out,if_neg (by decide),hkz,if_neg (by decide),hmb,if_neg (by decide)]
     have HMQ:=Lib.hid hmq
     clear hmq
     cases qv
     ·have HRm:Hid (R=4):=Lib.hid (by rw [HE.out,if_neg (by rw [HMQ.out];decide),HMQ.out];rfl)
      go_wp2_with fail
      refine (HU.out W2).mono ?_
      rintro e wu ⟨rfl,hbu⟩
      have HX0:=Lib.hid (show Below W2.heap.size W2 wu from hbu)
      obtain ⟨f0,f1,hEx,hBx⟩:=HK.out _ HX0.out
      clear hbu hBx hEx g0 g6
      cases qu
      ·go_wp2_with fail
       refine (HV.out _).mono ?_
       rintro e wv ⟨rfl,hbv⟩
       have HX:=Lib.hid (HX0.out.trans (hbv.mono HX0.out.size))
       clear hbv
       go_wp2_with fail
       go_ret
       exact ⟨by rw [HRm.out];rfl,HB1.out.trans ((hB.out.trans ((HK.out _ HX.out).2.2.2.mono hB.out.size)).mono HB1.out.size)⟩
      ·go_wp2_with fail
       refine (HV.out _).mono ?_
       rintro e wv ⟨rfl,hbv⟩
       have HX:=Lib.hid (HX0.out.trans (hbv.mono HX0.out.size))
       clear hbv
       go_wp2_with fail
       go_ret
       exact ⟨by rw [HRm.out];rfl,HB1.out.trans ((hB.out.trans ((HK.out _ HX.out).2.2.2.mono hB.out.size)).mono HB1.out.size)⟩
     ·have HOK:Hid (armErr a qu true o.1 m ((kk:Int) == 0)=0):=Lib.hid (by rw [HMQ.out];rfl)
      go_wp2_with fail
      refine (HU.out W2).mono ?_
      rintro e wu ⟨rfl,hbu⟩
      have HX0:=Lib.hid (show Below W2.heap.size W2 wu from hbu)
      clear hbu f0 f1 g0 g6
      obtain ⟨f0,f1,hEx,hBx⟩:=HK.out _ HX0.out
      clear hBx hEx
      cases qu
      ·go_wp2_with fail
       refine (HV.out _).mono ?_
       rintro e wv ⟨rfl,hbv⟩
       have HX:=Lib.hid (HX0.out.trans (hbv.mono HX0.out.size))
       clear hbv f0 f1
       obtain ⟨f0,f1,hEx,hBx⟩:=HK.out _ HX.out
       have HBx:=Lib.hid hBx
       have HR3:Hid (R=if E2=0 then (if ((ops.take kk).map (·.1)).contains o.1=true then 5 else armsErr a (ops.take (kk+1)) (ops.drop (kk+1))) else E2):=Lib.hid (by rw [HE.out,if_pos HOK.out])
       have g0:=hEx.c0
       have g6:=hEx.c6
       clear hBx hEx
       go_wp2_with fail
       refine (HY.out _ HBx.out).mono ?_
       rintro e wy ⟨rfl,hby⟩
       have HY2:=Lib.hid (HX.out.trans (hby.mono HX.out.size))
       clear hby f0 f1 g0 g6
       by_cases he2:E2=0
       ·have HR4:Hid (R=if ((ops.take kk).map (·.1)).contains o.1=true then 5 else armsErr a (ops.take (kk+1)) (ops.drop (kk+1))):=Lib.hid (by rw [HR3.out,if_pos he2])
        subst he2
        clear HR3
        go_wp2_with fail
        go_loopw [8] (fun i wz=>∃ jj:Nat,jj≤kk∧i=.int .i64 (jj:Int)∧Hid (Below W2.heap.size W2 wz)∧Hid (R=if (((ops.take kk).drop jj).map (·.1)).contains o.1=true then 5 else armsErr a (ops.take (kk+1)) (ops.drop (kk+1)))) (fun i _=>kk - (intOf i).toNat)
        case atStart=>exact ⟨0,Nat.zero_le _,rfl,HY2,Lib.hid (by rw [HR4.out,List.drop_zero])⟩
        case round =>
         obtain ⟨jj,hj,rfl,hZ,hRj⟩:=hrel
         obtain ⟨f0,f1,hEx,hBx⟩:=HK.out _ hZ.out
         have HBx:=Lib.hid hBx
         have g0:=hEx.c0
         have g6:=hEx.c6
         have j0:(0:Int)≤(jj:Int):=by omega
         clear hBx hEx
         by_cases hjl:jj < kk
         ·have hjn:jj < ops.length:=by omega
          have j1:(jj:Int) < (kk:Int):=by omega
          have j2:(jj:Int) < (n:Int):=by omega
          obtain ⟨_,_,_,_,_,_,_,_,_,_,_,_,_,_,_,_,_,_,_,_,d0,_⟩:=hcc jj _ (List.getElem?_eq_getElem hjn)
          have d0:=(Below.cell (p:=⟨b,off+jj*9,none⟩) HBx.out hlt).trans d0
          obtain ⟨S2,hS2⟩:∃ S2,S2=strB (ops[jj]).1:=⟨_,rfl⟩
          obtain ⟨q5,hq5⟩:∃ q,q=((ops[jj]).1 == o.1):=⟨_,rfl⟩
          have hcmp:(S2.toList == S.toList)=q5:=by rw [hS2,HS.out,ByteArray.toList_eq,ByteArray.toList_eq,data_strB,data_strB,hq5]
          have HRk:Hid (R=if q5=true then 5 else if (((ops.take kk).drop (jj+1)).map (·.1)).contains o.1=true then 5 else armsErr a (ops.take (kk+1)) (ops.drop (kk+1))):=Lib.hid (by
           have hlt':jj < (ops.take kk).length:=by rw [List.length_take];omega
           rw [hRj.out,List.drop_eq_getElem_cons hlt',List.map_cons,List.contains_cons,List.getElem_take,hq5]
           by_cases hh:(ops[jj]).1=o.1
           ·simp [hh]
           ·have h2:¬ o.1=(ops[jj]).1:=fun e=>hh e.symm
            simp [hh,h2])
          rw [← hS2] at d0
          clear hRj hS2 hq5
          cases q5
          ·have HRm:Hid (R=if (((ops.take kk).drop (jj+1)).map (·.1)).contains o.1=true then 5 else armsErr a (ops.take (kk+1)) (ops.drop (kk+1))):=Lib.hid (by rw [HRk.out,if_neg (by simp)])
           clear HRk
           go_wp2_with fail
           go_region
           all_goals (
            go_wp2_with fail
            go_roundw
            case rel=>exact ⟨jj+1,by omega,by go_num,Lib.hid hZ.out.drew,HRm⟩
            case measure=>simp [intOf];omega)
          ·have HRm:Hid (R=5):=Lib.hid (by rw [HRk.out,if_pos rfl])
           clear HRk
           go_wp2_with fail
           go_region
           all_goals (
            go_wp2_with fail
            go_ret
            exact ⟨by rw [HRm.out];rfl,HB1.out.trans ((hB.out.trans (HBx.out.drew.mono hB.out.size)).mono HB1.out.size)⟩)
         ·obtain rfl:jj=kk:=by omega
          have HRn:Hid (R=armsErr a (ops.take (jj+1)) (ops.drop (jj+1))):=Lib.hid (by
           have:(ops.take jj).drop jj=[]:=List.drop_eq_nil_iff.2 (by rw [List.length_take];omega)
           rw [hRj.out,this];simp)
          go_wp2_with fail
          go_roundg (n - (jj+1))
          case rel=>exact ⟨jj+1,Lib.hid (by omega),by go_num,Lib.hid (hB.out.trans (HBx.out.mono hB.out.size)),HRn⟩
          case measure=>have:=HG.out;omega
       ·have HR4:Hid (R=E2):=Lib.hid (by rw [HR3.out,if_neg he2])
        have hb2:(E2 == 0)=false:=beq_eq_false_iff_ne.2 he2
        clear he2 HR3
        go_wp2_with fail
        go_ret
        exact ⟨by rw [HR4.out];rfl,HB1.out.trans ((hB.out.trans ((HK.out _ HY2.out).2.2.2.mono hB.out.size)).mono HB1.out.size)⟩
      ·go_wp2_with fail
       refine (HV.out _).mono ?_
       rintro e wv ⟨rfl,hbv⟩
       have HX:=Lib.hid (HX0.out.trans (hbv.mono HX0.out.size))
       clear hbv f0 f1
       obtain ⟨f0,f1,hEx,hBx⟩:=HK.out _ HX.out
       have HBx:=Lib.hid hBx
       have HR3:Hid (R=if E2=0 then (if ((ops.take kk).map (·.1)).contains o.1=true then 5 else armsErr a (ops.take (kk+1)) (ops.drop (kk+1))) else E2):=Lib.hid (by rw [HE.out,if_pos HOK.out])
       have g0:=hEx.c0
       have g6:=hEx.c6
       clear hBx hEx
       go_wp2_with fail
       refine (HY.out _ HBx.out).mono ?_
       rintro e wy ⟨rfl,hby⟩
       have HY2:=Lib.hid (HX.out.trans (hby.mono HX.out.size))
       clear hby f0 f1 g0 g6
       by_cases he2:E2=0
       ·have HR4:Hid (R=if ((ops.take kk).map (·.1)).contains o.1=true then 5 else armsErr a (ops.take (kk+1)) (ops.drop (kk+1))):=Lib.hid (by rw [HR3.out,if_pos he2])
        subst he2
        clear HR3
        go_wp2_with fail
        go_loopw [8] (fun i wz=>∃ jj:Nat,jj≤kk∧i=.int .i64 (jj:Int)∧Hid (Below W2.heap.size W2 wz)∧Hid (R=if (((ops.take kk).drop jj).map (·.1)).contains o.1=true then 5 else armsErr a (ops.take (kk+1)) (ops.drop (kk+1)))) (fun i _=>kk - (intOf i).toNat)
        case atStart=>exact ⟨0,Nat.zero_le _,rfl,HY2,Lib.hid (by rw [HR4.out,List.drop_zero])⟩
        case round =>
         obtain ⟨jj,hj,rfl,hZ,hRj⟩:=hrel
         obtain ⟨f0,f1,hEx,hBx⟩:=HK.out _ hZ.out
         have HBx:=Lib.hid hBx
         have g0:=hEx.c0
         have g6:=hEx.c6
         have j0:(0:Int)≤(jj:Int):=by omega
         clear hBx hEx
         by_cases hjl:jj < kk
         ·have hjn:jj < ops.length:=by omega
          have j1:(jj:Int) < (kk:Int):=by omega
          have j2:(jj:Int) < (n:Int):=by omega
          obtain ⟨_,_,_,_,_,_,_,_,_,_,_,_,_,_,_,_,_,_,_,_,d0,_⟩:=hcc jj _ (List.getElem?_eq_getElem hjn)
          have d0:=(Below.cell (p:=⟨b,off+jj*9,none⟩) HBx.out hlt).trans d0
          obtain ⟨S2,hS2⟩:∃ S2,S2=strB (ops[jj]).1:=⟨_,rfl⟩
          obtain ⟨q5,hq5⟩:∃ q,q=((ops[jj]).1 == o.1):=⟨_,rfl⟩
          have hcmp:(S2.toList == S.toList)=q5:=by rw [hS2,HS.out,ByteArray.toList_eq,ByteArray.toList_eq,data_strB,data_strB,hq5]
          have HRk:Hid (R=if q5=true then 5 else if (((ops.take kk).drop (jj+1)).map (·.1)).contains o.1=true then 5 else armsErr a (ops.take (kk+1)) (ops.drop (kk+1))):=Lib.hid (by
           have hlt':jj < (ops.take kk).length:=by rw [List.length_take];omega
           rw [hRj.out,List.drop_eq_getElem_cons hlt',List.map_cons,List.contains_cons,List.getElem_take,hq5]
           by_cases hh:(ops[jj]).1=o.1
           ·simp [hh]
           ·have h2:¬ o.1=(ops[jj]).1:=fun e=>hh e.symm
            simp [hh,h2])
          rw [← hS2] at d0
          clear hRj hS2 hq5
          cases q5
          ·have HRm:Hid (R=if (((ops.take kk).drop (jj+1)).map (·.1)).contains o.1=true then 5 else armsErr a (ops.take (kk+1)) (ops.drop (kk+1))):=Lib.hid (by rw [HRk.out,if_neg (by simp)])
           clear HRk
           go_wp2_with fail
           go_region
           all_goals (
            go_wp2_with fail
            go_roundw
            case rel=>exact ⟨jj+1,by omega,by go_num,Lib.hid hZ.out.drew,HRm⟩
            case measure=>simp [intOf];omega)
          ·have HRm:Hid (R=5):=Lib.hid (by rw [HRk.out,if_pos rfl])
           clear HRk
           go_wp2_with fail
           go_region
           all_goals (
            go_wp2_with fail
            go_ret
            exact ⟨by rw [HRm.out];rfl,HB1.out.trans ((hB.out.trans (HBx.out.drew.mono hB.out.size)).mono HB1.out.size)⟩)
         ·obtain rfl:jj=kk:=by omega
          have HRn:Hid (R=armsErr a (ops.take (jj+1)) (ops.drop (jj+1))):=Lib.hid (by
           have:(ops.take jj).drop jj=[]:=List.drop_eq_nil_iff.2 (by rw [List.length_take];omega)
           rw [hRj.out,this];simp)
          go_wp2_with fail
          go_roundg (n - (jj+1))
          case rel=>exact ⟨jj+1,Lib.hid (by omega),by go_num,Lib.hid (hB.out.trans (HBx.out.mono hB.out.size)),HRn⟩
          case measure=>have:=HG.out;omega
       ·have HR4:Hid (R=E2):=Lib.hid (by rw [HR3.out,if_neg he2])
        have hb2:(E2 == 0)=false:=beq_eq_false_iff_ne.2 he2
        clear he2 HR3
        go_wp2_with fail
        go_ret
        exact ⟨by rw [HR4.out];rfl,HB1.out.trans ((hB.out.trans ((HK.out _ HY2.out).2.2.2.mono hB.out.size)).mono HB1.out.size)⟩
    ·have hmb:((m:Int) == 2)=false:=beq_eq_false_iff_ne.2 (by omega)
     have hmn:((m:Int) != 2)=true:=by unfold bne;rw [hmb];rfl
     have HAE:armErr a qu qv o.1 m ((kk:Int) == 0)=7:=by unfold armErr;rw [Ha1.out,if_neg (by decide),hkz,if_neg (by decide),hmb,if_pos rfl]
     have HRm:Hid (R=7):=Lib.hid (by rw [HE.out,if_neg (by rw [HAE];decide),HAE])
     clear HAE
     go_wp2_with fail
     go_ret
     exact ⟨by rw [HRm.out];rfl,HB1.out.trans ((hB.out.trans ((HK.out _ (Below.refl _ _)).2.2.2.mono hB.out.size)).mono HB1.out.size)⟩
  ·obtain rfl:kk=n:=by omega
   have HRe:Hid (R=if kk=0 then 7 else 0):=Lib.hid (by
    rw [hE.out,List.drop_eq_nil_iff.2 (by rw [HL.out];exact Nat.le_refl _),armsErr,List.take_of_length_le (by rw [HL.out];exact Nat.le_refl _),HA2.out,HL.out]
    cases ops <;> simp)
   by_cases h0:kk=0
   ·have HRm:Hid (R=7):=Lib.hid (by rw [HRe.out,if_pos h0])
    have hkz:((kk:Int) == 0)=true:=by rw [h0];rfl
    clear h0
    go_wp2_with fail
    go_ret
    exact ⟨by rw [HRm.out];rfl,HB1.out.trans (hB.out.mono HB1.out.size)⟩
   ·have HRm:Hid (R=0):=Lib.hid (by rw [HRe.out,if_neg h0])
    have hkz:((kk:Int) == 0)=false:=beq_eq_false_iff_ne.2 (by omega)
    go_wp2_with fail
    go_ret
    exact ⟨by rw [HRm.out];rfl,HB1.out.trans (hB.out.mono HB1.out.size)⟩
def shTab:List (List Int):=[[1,0,0,0,0,0,0],[0,0,0,0,0,-999999999,999999999],[0,0,0,0,0,0,1],[0,0,0,0,0,0,0],[0,0,1,1,0,0,0],[0,0,0,2,0,0,0],[0,0,1,2,0,0,0],[0,0,2,2,0,0,0],[0,0,0,3,0,0,0],[3,0,0,2,0,0,0],
 [2,0,0,0,0,0,0],[0,0,0,1,1,0,0],[1,0,0,1,0,0,0],[1,1,0,1,0,0,0],[2,0,0,1,1,0,1],[2,0,1,1,1,0,0],[2,0,0,1,0,0,0],[0,0,1,3,0,0,0],[1,0,0,1,0,0,0],[1,0,0,0,0,0,0]]
def shRow (l:List Int):List Value:=[.int .i64 (l.getD 0 0),.int .i64 (l.getD 1 0),.int .i64 (l.getD 2 0),.int .i64 (l.getD 3 0),.bool (l.getD 4 0 == 1),.int .i64 (l.getD 5 0),.int .i64 (l.getD 6 0)]
def shOf (k j:Nat):Int:=(shTab.getD k []).getD j 0
def shVals:List Value:=(shTab.map shRow).flatten
def ShapesAt (w:World)(A:Option Addr):Prop:=∃ b,A=some ⟨b,0,none⟩∧b < w.heap.size∧∀ k,k < 20→w.cell? ⟨b,k*7,none⟩=some (.int .i64 (shOf k 0))∧w.cell? ⟨b,k*7+1,none⟩=some (.int .i64 (shOf k 1))∧w.cell? ⟨b,k*7+2,none⟩=some (.int .i64 (shOf k 2))∧w.cell? ⟨b,k*7+3,none⟩=some (.int .i64 (shOf k 3)) ∧
 w.cell? ⟨b,k*7+4,none⟩=some (.bool (shOf k 4 == 1))∧w.cell? ⟨b,k*7+5,none⟩=some (.int .i64 (shOf k 5))∧w.cell? ⟨b,k*7+6,none⟩=some (.int .i64 (shOf k 6))
theorem shVals_at:∀ k,k < 20→shVals[k*7]?=some (.int .i64 (shOf k 0))∧shVals[k*7+1]?=some (.int .i64 (shOf k 1))∧shVals[k*7+2]?=some (.int .i64 (shOf k 2))∧shVals[k*7+3]?=some (.int .i64 (shOf k 3))∧shVals[k*7+4]?=some (.bool (shOf k 4 == 1))∧shVals[k*7+5]?=some (.int .i64 (shOf k 5))∧shVals[k*7+6]?=some (.int .i64 (shOf k 6)):=by
 intro k hk
 match k,hk with
 | 0,_ | 1,_ | 2,_ | 3,_ | 4,_ | 5,_ | 6,_ | 7,_ | 8,_ | 9,_ | 10,_ | 11,_ | 12,_ | 13,_ | 14,_ | 15,_ | 16,_ | 17,_ | 18,_ | 19,_=>exact ⟨rfl,rfl,rfl,rfl,rfl,rfl,rfl⟩
 | m+20,h=>omega
set_option maxRecDepth 100000 in
theorem shapes_at (W W':World)(t:TypeId)(hW:W.alloc (.cells shVals.toArray t)=W'):ShapesAt W' (some ⟨W.heap.size,0,none⟩):=by
 refine ⟨W.heap.size,rfl,by rw [← hW];simp,fun k hk=>?_⟩
 have hb:=hW ▸ heap_alloc_new W (.cells shVals.toArray t)
 obtain ⟨h0,h1,h2,h3,h4,h5,h6⟩:=shVals_at k hk
 have e:∀ i u,shVals[i]?=some u→W'.cell? ⟨W.heap.size,i,none⟩=some u:=fun i u h=>by
  rw [cell_of_row _ _ _ _ t (0,0) hb]
  simpa using h
 exact ⟨e _ _ h0,e _ _ h1,e _ _ h2,e _ _ h3,e _ _ h4,e _ _ h5,e _ _ h6⟩
set_option maxRecDepth 100000 in
set_option maxHeartbeats 4000000 in
theorem shapes_any (w:World):Calls Tryz.prog 77 #[] w fun e w'=>∃ A,e=.returned (.slice A 20 20)∧ShapesAt w' A∧Below w.heap.size w w':=by
 have H:=Lib.hid (shapes_at w _ 110 rfl)
 go_enter Tryz.func77,Tryz.ntmps77
 go_wp2_with fail
 go_ret
 exact ⟨_,rfl,H.out,(Below.refl _ _).alloc (Nat.le_refl _) _⟩
theorem cls_s:∀ k,k < 20→∀ s,rCls (shOf k 0) s=nameHas (useOf k 1) s:=by
 intro k hk s
 have h:∀ k,k < 20→(shOf k 0=0∧useOf k 1=0)∨(shOf k 0=1∧useOf k 1=1)∨(shOf k 0=2∧useOf k 1=2)∨(shOf k 0=3∧useOf k 1=4):=by decide
 rcases h k hk with ⟨a,b⟩ | ⟨a,b⟩ | ⟨a,b⟩ | ⟨a,b⟩ <;> rw [a,b] <;> unfold rCls nameHas <;> simp [← rCls_prim]
theorem cls_t:∀ k,k < 20→∀ s,rCls (shOf k 1) s=nameHas (useOf k 2) s:=by
 intro k hk s
 have h:∀ k,k < 20→(shOf k 1=0∧useOf k 2=0)∨(shOf k 1=1∧useOf k 2=1):=by decide
 rcases h k hk with ⟨a,b⟩ | ⟨a,b⟩ <;> rw [a,b] <;> unfold rCls nameHas <;> simp
theorem num_n:∀ k,k < 20→∀ n,(decide (shOf k 5≤n) && decide (n≤shOf k 6))=numHas (useOf k 0) n:=by
 intro k hk n
 have h:∀ k,k < 20→(shOf k 5=0∧shOf k 6=0∧useOf k 0=0)∨(shOf k 5=0∧shOf k 6=1∧useOf k 0=1)∨(shOf k 5=-999999999∧shOf k 6=999999999∧useOf k 0=3):=by decide
 rcases h k hk with ⟨a,b,c⟩ | ⟨a,b,c⟩ | ⟨a,b,c⟩ <;> rw [a,b,c] <;> unfold numHas <;> simp <;> rw [Bool.eq_iff_iff] <;> simp <;> omega
def manyB (k:Nat)(n:Nat):Bool:=(n:Int) == shOf k 2 || (k == 17 && (decide (1≤n) && decide (n≤13)))
def partsB (k:Nat)(n:Nat):Bool:=(n:Int) == shOf k 3 || (k == 10 && decide (n≤4))
def armsB (k:Nat)(n:Nat):Bool:=(shOf k 4 == 1 || n == 0) && decide (n≤9)
theorem many_n:∀ k,k < 20→∀ n:Nat,manyB k n=cntIn n (useOf k 3) (useOf k 4):=by
 intro k hk n
 have h:∀ k,k < 20→(k=17∧shOf k 2=1∧useOf k 3=1∧useOf k 4=12)∨(¬ k=17∧useOf k 3=shOf k 2∧useOf k 4=0):=by decide
 unfold manyB cntIn
 rcases h k hk with ⟨a,b,c,d⟩ | ⟨a,b,c⟩
 ·rw [b,c,d,a,Bool.eq_iff_iff];simp;omega
 ·rw [b,c,Bool.eq_iff_iff];simp [a];omega
theorem parts_n:∀ k,k < 20→∀ n:Nat,partsB k n=cntIn n (useOf k 5) (useOf k 6):=by
 intro k hk n
 have h:∀ k,k < 20→(k=10∧shOf k 3=0∧useOf k 5=0∧useOf k 6=4)∨(¬ k=10∧useOf k 5=shOf k 3∧useOf k 6=0):=by decide
 unfold partsB cntIn
 rcases h k hk with ⟨a,b,c,d⟩ | ⟨a,b,c⟩
 ·rw [b,c,d,a,Bool.eq_iff_iff];simp;omega
 ·rw [b,c,Bool.eq_iff_iff];simp [a];omega
theorem arms_n:∀ k,k < 20→∀ n:Nat,armsB k n=roomB n (useOf k 7):=by
 intro k hk n
 have h:∀ k,k < 20→(shOf k 4=1∧¬ useOf k 7=0)∨(shOf k 4=0∧useOf k 7=0):=by decide
 unfold armsB roomB
 rcases h k hk with ⟨a,b⟩ | ⟨a,b⟩
 ·rw [a,Bool.eq_iff_iff];simp [b];omega
 ·rw [a,b,Bool.eq_iff_iff];simp;omega
theorem use7:∀ k,k < 20→(shOf k 4=0∧useOf k 7=0)∨(shOf k 4=1∧k=11∧useOf k 7=1)∨(shOf k 4=1∧¬ k=11∧useOf k 7=2):=by decide
theorem armsErr_nil0 (ops:Hds)(h:ops=[]):armsErr 0 [] ops=0:=by subst h;rfl
set_option maxRecDepth 100000 in
set_option maxHeartbeats 16000000 in
theorem node_any (x:Ex)(k n:Int)(s t:ByteArray)(A0:Option Addr)(n0 c0:Nat)(A1:Option Addr)(n1 c1:Nat)(A2:Option Addr)(n2 c2:Nat)(w:World)
  (hre:RepE (fun _=>True) w x [.int .i64 k,.int .i64 n,.string s,.string t,.slice A0 n0 c0,.slice A1 n1 c1,.slice A2 n2 c2]) (h9:x.ns.length≤1000) (h99:∀ o∈x.ops,o.2.length≤1000) :
  Calls Tryz.prog 50 #[.agg #[.int .i64 k,.int .i64 n,.string s,.string t,.slice A0 n0 c0,.slice A1 n1 c1,.slice A2 n2 c2]] w fun e w'=>e=.returned (.int .i64 (chkN x))∧Below w.heap.size w w':=by
 obtain ⟨R,hR⟩:∃ R,R=chkN x:=⟨_,rfl⟩
 have HR:=Lib.hid hR
 rw [← hR]
 clear hR
 cases x with
 | mk xk xn xs xt ns l ops bs =>
 obtain ⟨An,cn,Al,cl,Aa,ca,e,hf,hn,hl,ha,ho⟩:=hre
 simp only [exCells,List.cons.injEq,Value.int.injEq,Value.string.injEq,Value.slice.injEq,and_true,true_and] at e
 obtain ⟨rfl,rfl,rfl,rfl,⟨rfl,rfl,rfl⟩,⟨rfl,rfl,rfl⟩,rfl,rfl,rfl⟩:=e
 have hA:ArmsHd w A2 ops:=fun h0=>by
  obtain ⟨b,off,rfl,_,hlt,hr⟩:=ha (fun e=>h0 (List.length_eq_zero_iff.1 (by rw [ho,e];rfl)))
  exact RepA.heads ho hlt hr h0
 have HA:=Lib.hid hA
 have HN:=Lib.hid hn
 have HF:=Lib.hid hf
 have HO:=Lib.hid ho
 have H9:Hid (ns.length≤1000):=Lib.hid h9
 have H99:Hid (∀ o∈ops,o.2.length≤1000):=Lib.hid h99
 clear hA hn hf ha hl ho h9 h99
 by_cases hk:0≤k∧k < 20
 ·obtain ⟨kn,rfl⟩:∃ kn:Nat,k=(kn:Int):=⟨k.toNat,by omega⟩
  have hkn:kn < 20:=by omega
  have i0:(0:Int)≤(kn:Int):=by omega
  have i1:(kn:Int) < 20:=by omega
  clear hk
  obtain ⟨nl,hnl⟩:∃ q,q=ns.length:=⟨_,rfl⟩
  obtain ⟨ll,hll⟩:∃ q,q=l.length:=⟨_,rfl⟩
  obtain ⟨al,hal⟩:∃ q,q=bs.length:=⟨_,rfl⟩
  obtain ⟨x0,hx0⟩:∃ q,q=shOf kn 0:=⟨_,rfl⟩
  obtain ⟨x1,hx1⟩:∃ q,q=shOf kn 1:=⟨_,rfl⟩
  obtain ⟨x2,hx2⟩:∃ q,q=shOf kn 2:=⟨_,rfl⟩
  obtain ⟨x3,hx3⟩:∃ q,q=shOf kn 3:=⟨_,rfl⟩
  obtain ⟨x4,hx4⟩:∃ q,q=(shOf kn 4 == 1):=⟨_,rfl⟩
  obtain ⟨x5,hx5⟩:∃ q,q=shOf kn 5:=⟨_,rfl⟩
  obtain ⟨x6,hx6⟩:∃ q,q=shOf kn 6:=⟨_,rfl⟩
  obtain ⟨q5,hq5⟩:∃ q,q=(decide (x5≤n) && decide (n≤x6)):=⟨_,rfl⟩
  obtain ⟨q0,hq0⟩:∃ q,q=rCls x0 xs:=⟨_,rfl⟩
  obtain ⟨q1,hq1⟩:∃ q,q=rCls x1 xt:=⟨_,rfl⟩
  obtain ⟨E7,hE7⟩:∃ q,q=nmsErr kn ns:=⟨_,rfl⟩
  obtain ⟨E8,hE8⟩:∃ q,q=armsErr (useOf kn 7) [] ops:=⟨_,rfl⟩
  have HRK:Hid (R=if q5=false then 1 else if q0=false then 4 else if q1=false then 4 else if manyB kn nl=false then 7 else if partsB kn ll=false then 7 else if armsB kn al=false then 7 else if E7=0 then E8 else E7):=Lib.hid (by
   rw [HR.out]
   unfold chkN
   rw [if_pos ⟨i0,i1⟩,hq5,hq0,hq1,hx5,hx6,hx0,hx1,num_n kn hkn,cls_s kn hkn,cls_t kn hkn,many_n kn hkn,parts_n kn hkn,arms_n kn hkn,hE7,hE8,hnl,hll,hal]
   rfl)
  have HMB:Hid (manyB kn nl=(((nl:Int) == x2) || (((kn:Int) == 17) && (decide ((1:Int)≤nl) && decide ((nl:Int)≤13))))):=Lib.hid (by
   unfold manyB;rw [hx2,Bool.eq_iff_iff];simp;omega)
  have HPB:Hid (partsB kn ll=(((ll:Int) == x3) || (((kn:Int) == 10) && decide ((ll:Int)≤4)))):=Lib.hid (by
   unfold partsB;rw [hx3,Bool.eq_iff_iff];simp;omega)
  have HAB:Hid (armsB kn al=((x4 || decide ((al:Int)≤0)) && decide ((al:Int)≤9))):=Lib.hid (by
   unfold armsB;rw [hx4,Bool.eq_iff_iff];simp;omega)
  have HE8:Hid (x4=false→(al:Int)≤0→E8=0):=Lib.hid (fun h h2=>by
   rw [hE8]
   rcases use7 kn hkn with ⟨a,b⟩ | ⟨a,_⟩ | ⟨a,_⟩
   ·rw [b];exact armsErr_nil0 ops (List.length_eq_zero_iff.1 (by rw [HO.out,← hal];omega))
   ·rw [hx4,a] at h;cases h
   ·rw [hx4,a] at h;cases h)
  have HAr:Hid (x4=true→∀ wx,Below w.heap.size w wx→Calls Tryz.prog 81 #[.agg #[.int .i64 (kn:Int),.int .i64 n,.string (strB xs),.string (strB xt),.slice A0 nl c0,.slice A1 ll c1,.slice A2 al c2]] wx fun e w'=>e=.returned (.int .i64 E8)∧Below wx.heap.size wx w'):=Lib.hid (fun h wx hb=>by
   rw [hE8,hnl,hll,hal,← HO.out]
   rcases use7 kn hkn with ⟨a,b⟩ | ⟨a,b,c⟩ | ⟨a,b,c⟩
   ·rw [hx4,a] at h;cases h
   ·rw [c]
    subst b
    exact armsM_any n (strB xs) (strB xt) _ _ A2 c2 ops wx (HA.out.below hb) (by rw [HO.out];exact HF.out.hca) H99.out
   ·rw [c]
    exact armsH_any (kn:Int) n (strB xs) (strB xt) _ _ A2 c2 ops wx (beq_eq_false_iff_ne.2 (by omega)) (HA.out.below hb) (by rw [HO.out];exact HF.out.hca) H99.out)
  have HNm:Hid (manyB kn nl=true→∀ wx,Below w.heap.size w wx→Calls Tryz.prog 80 #[.agg #[.int .i64 (kn:Int),.int .i64 n,.string (strB xs),.string (strB xt),.slice A0 nl c0,.slice A1 ll c1,.slice A2 al c2]] wx fun e w'=>e=.returned (.int .i64 E7)∧Below wx.heap.size wx w'):=Lib.hid (fun h wx hb=>by
   rw [hE7,hnl,hll,hal]
   refine names_any (kn:Int) n (strB xs) (strB xt) A0 c0 _ _ ns wx (HN.out.keep (Same.of_below hb)) HF.out.hcn H9.out HF.out.hns (fun h17=>?_)
   have h17':kn=17:=by omega
   subst h17'
   rw [← hnl]
   unfold manyB at h
   have:shOf 17 2=1:=rfl
   rw [this] at h
   simp at h
   omega)
  have HI1:Hid (∀ wx,Calls Tryz.prog 78 #[.int .i64 (kn:Int),.int .i64 0,.int .i64 19] wx fun e w'=>e=.returned (.bool true)∧wx=w'):=Lib.hid (fun wx=>(In_any _ _ _ wx).mono fun e w' h=>⟨by rw [h.1];apply ret_bool;simp;omega,h.2⟩)
  have HI2:Hid (∀ wx,Calls Tryz.prog 78 #[.int .i64 n,.int .i64 x5,.int .i64 x6] wx fun e w'=>e=.returned (.bool q5)∧wx=w'):=Lib.hid (fun wx=>by rw [hq5];exact In_any _ _ _ wx)
  have HC0:Hid (∀ wx,Calls Tryz.prog 79 #[.string (strB xs),.int .i64 x0] wx fun e w'=>e=.returned (.bool q0)∧Below wx.heap.size wx w'):=Lib.hid (fun wx=>by rw [hq0];exact class_any xs x0 wx HF.out.hs)
  have HC1:Hid (∀ wx,Calls Tryz.prog 79 #[.string (strB xt),.int .i64 x1] wx fun e w'=>e=.returned (.bool q1)∧Below wx.heap.size wx w'):=Lib.hid (fun wx=>by rw [hq1];exact class_any xt x1 wx HF.out.ht)
  have HX:Hid (∀ (W:World) (b:Nat),(∀ k,k < 20→W.cell? ⟨b,k*7,none⟩=some (.int .i64 (shOf k 0))∧W.cell? ⟨b,k*7+1,none⟩=some (.int .i64 (shOf k 1))∧W.cell? ⟨b,k*7+2,none⟩=some (.int .i64 (shOf k 2))∧W.cell? ⟨b,k*7+3,none⟩=some (.int .i64 (shOf k 3)) ∧
    W.cell? ⟨b,k*7+4,none⟩=some (.bool (shOf k 4 == 1))∧W.cell? ⟨b,k*7+5,none⟩=some (.int .i64 (shOf k 5))∧W.cell? ⟨b,k*7+6,none⟩=some (.int .i64 (shOf k 6))) →
    W.cell? ⟨b,kn*7,none⟩=some (.int .i64 x0)∧W.cell? ⟨b,kn*7+1,none⟩=some (.int .i64 x1)∧W.cell? ⟨b,kn*7+2,none⟩=some (.int .i64 x2)∧W.cell? ⟨b,kn*7+3,none⟩=some (.int .i64 x3)∧W.cell? ⟨b,kn*7+4,none⟩=some (.bool x4)∧W.cell? ⟨b,kn*7+5,none⟩=some (.int .i64 x5)∧W.cell? ⟨b,kn*7+6,none⟩=some (.int .i64 x6)):=Lib.hid (fun W b h=>by
   rw [hx0,hx1,hx2,hx3,hx4,hx5,hx6];exact h kn hkn)
  rw [← hnl,← hll,← hal]
  clear hnl hll hal hx0 hx1 hx2 hx3 hx4 hx5 hx6 hq5 hq0 hq1 hE7 hE8
  obtain ⟨W1,hW1⟩:∃ W1,w.alloc (.cells #[.int .i64 (kn:Int),.int .i64 n,.string (strB xs),.string (strB xt),.slice A0 nl c0,.slice A1 ll c1,.slice A2 al c2] 27)=W1:=⟨_,rfl⟩
  have HB1:Hid (Below w.heap.size w W1):=Lib.hid (by rw [← hW1];exact (Below.refl _ _).alloc (Nat.le_refl _) _)
  have HE1:Hid (EB W1 w.heap.size (.int .i64 (kn:Int)) (.int .i64 n) (.string (strB xs)) (.string (strB xt)) (.slice A0 nl c0) (.slice A1 ll c1) (.slice A2 al c2)):=Lib.hid (by rw [← hW1];exact EB.new w _ _ _ _ _ _ _)
  have hz:w.heap.size < W1.heap.size:=HE1.out.lt
  go_enter Tryz.func50,Tryz.ntmps50
  go_wp2_with fail
  clear hW1
  refine (shapes_any W1).mono ?_
  rintro e w2 ⟨Ash,rfl,⟨b,rfl,hlb,hsh⟩,hb⟩
  have HE2:=Lib.hid (HE1.out.kept (grown_below hb none) (by simp))
  have HB2:=Lib.hid (HB1.out.trans (hb.mono HB1.out.size))
  obtain ⟨s0,s1,s2,s3,s4,s5,s6⟩:=HX.out w2 b hsh
  obtain ⟨W3,hW3⟩:∃ W3,w2.alloc (.cells #[.int .i64 x0,.int .i64 x1,.int .i64 x2,.int .i64 x3,.bool x4,.int .i64 x5,.int .i64 x6] 110)=W3:=⟨_,rfl⟩
  have HB3:Hid (Below w2.heap.size w2 W3):=Lib.hid (by rw [← hW3];exact (Below.refl _ _).alloc (Nat.le_refl _) _)
  have hg3:w2.heap.size < W3.heap.size:=by rw [← hW3];simp
  have HK:Hid (∀ w',Below W3.heap.size W3 w'→(w'.cell? ⟨w2.heap.size,0,none⟩=some (.int .i64 x0)∧w'.cell? ⟨w2.heap.size,1,none⟩=some (.int .i64 x1)∧w'.cell? ⟨w2.heap.size,2,none⟩=some (.int .i64 x2)∧w'.cell? ⟨w2.heap.size,3,none⟩=some (.int .i64 x3)∧w'.cell? ⟨w2.heap.size,4,none⟩=some (.bool x4)∧w'.cell? ⟨w2.heap.size,5,none⟩=some (.int .i64 x5)∧w'.cell? ⟨w2.heap.size,6,none⟩=some (.int .i64 x6)) ∧
    EB w' w.heap.size (.int .i64 (kn:Int)) (.int .i64 n) (.string (strB xs)) (.string (strB xt)) (.slice A0 nl c0) (.slice A1 ll c1) (.slice A2 al c2)∧Below w.heap.size w w'):=Lib.hid (fun w' hb=>by
   have hbl:=hW3 ▸ heap_alloc_new w2 (.cells #[.int .i64 x0,.int .i64 x1,.int .i64 x2,.int .i64 x3,.bool x4,.int .i64 x5,.int .i64 x6] 110)
   have hbl2:=(hb.block _ hg3).trans hbl
   have HB23:=HB2.out.trans (HB3.out.mono HB2.out.size)
   exact ⟨⟨cell_of_row _ _ 0 _ _ (0,0) hbl2,cell_of_row _ _ 1 _ _ (0,0) hbl2,cell_of_row _ _ 2 _ _ (0,0) hbl2,cell_of_row _ _ 3 _ _ (0,0) hbl2,cell_of_row _ _ 4 _ _ (0,0) hbl2,cell_of_row _ _ 5 _ _ (0,0) hbl2,cell_of_row _ _ 6 _ _ (0,0) hbl2⟩,(HE2.out.kept (grown_below HB3.out none) (by simp)).kept (grown_below hb none) (by simp),HB23.trans (hb.mono HB23.size)⟩)
  have g0:=HE2.out.c0
  have hg2:w.heap.size < w2.heap.size:=HE2.out.lt
  have i19:(kn:Int) < ((20:Nat):Int):=by omega
  clear hb hsh
  go_wp2_with fail
  refine (HI1.out _).mono ?_
  rintro e w2' ⟨rfl,rfl⟩
  obtain ⟨⟨f0,f1,f2,f3,f4,f5,f6⟩,hE,_⟩:=HK.out _ (Below.refl _ _)
  have e0:=hE.c0
  have e1:=hE.c1
  have e2:=hE.c2
  have e3:=hE.c3
  have e4:=hE.c4
  have e5:=hE.c5
  have e6:=hE.c6
  clear hE
  go_wp2_with fail
  refine (HI2.out _).mono ?_
  rintro e w3' ⟨rfl,rfl⟩
  cases q5
  ·have HRm:Hid (R=1):=Lib.hid (by rw [HRK.out,if_pos rfl])
   go_wp2_with fail
   go_ret
   exact ⟨by rw [HRm.out];rfl,(HK.out _ (Below.refl _ _)).2.2⟩
  ·go_wp2_with fail
   refine (HC0.out _).mono ?_
   rintro e w4 ⟨rfl,hb⟩
   have HB4:=Lib.hid (show Below W3.heap.size W3 w4 from hb)
   clear hb e0 e1 e2 e3 e4 e5 e6 f0 f1 f2 f3 f4 f5 f6
   obtain ⟨⟨f0,f1,f2,f3,f4,f5,f6⟩,hE,_⟩:=HK.out _ HB4.out
   have e0:=hE.c0
   have e1:=hE.c1
   have e2:=hE.c2
   have e3:=hE.c3
   have e4:=hE.c4
   have e5:=hE.c5
   have e6:=hE.c6
   clear hE
   cases q0
   ·have HRm:Hid (R=4):=Lib.hid (by rw [HRK.out,if_neg (by simp),if_pos rfl])
    go_wp2_with fail
    go_ret
    exact ⟨by rw [HRm.out];rfl,(HK.out _ HB4.out).2.2⟩
   ·go_wp2_with fail
    refine (HC1.out _).mono ?_
    rintro e w5 ⟨rfl,hb⟩
    have HB5:=Lib.hid (HB4.out.trans (hb.mono HB4.out.size))
    clear hb e0 e1 e2 e3 e4 e5 e6 f0 f1 f2 f3 f4 f5 f6
    obtain ⟨⟨f0,f1,f2,f3,f4,f5,f6⟩,hE,_⟩:=HK.out _ HB5.out
    have e0:=hE.c0
    have e1:=hE.c1
    have e2:=hE.c2
    have e3:=hE.c3
    have e4:=hE.c4
    have e5:=hE.c5
    have e6:=hE.c6
    clear hE
    cases q1
    ·have HRm:Hid (R=4):=Lib.hid (by rw [HRK.out,if_neg (by simp),if_neg (by simp),if_pos rfl])
     go_wp2_with fail
     go_ret
     exact ⟨by rw [HRm.out];rfl,(HK.out _ HB5.out).2.2⟩
    ·have HRk:Hid (R=if manyB kn nl=false then 7 else if partsB kn ll=false then 7 else if armsB kn al=false then 7 else if E7=0 then E8 else E7):=Lib.hid (by rw [HRK.out,if_neg (by simp),if_neg (by simp),if_neg (by simp)])
     clear HRK
     by_cases hm1:(nl:Int)=x2
     ·have m1:((nl:Int) == x2)=true:=beq_iff_eq.2 hm1
      have HMv:Hid (manyB kn nl=true):=Lib.hid (by rw [HMB.out,m1];rfl)
      clear hm1
      by_cases hp1:(ll:Int)=x3
      ·have p1:((ll:Int) == x3)=true:=beq_iff_eq.2 hp1
       have HPv:Hid (partsB kn ll=true):=Lib.hid (by rw [HPB.out,p1];rfl)
       clear hp1
       cases x4
       ·by_cases ha0:(al:Int)≤0
        ·obtain rfl:al=0:=by omega
         have hA0:=Lib.hid ha0
         have HAv:Hid (armsB kn 0=true):=Lib.hid (by rw [HAB.out];rfl)
         clear ha0
         have HRn:Hid (R=if E7=0 then E8 else E7):=Lib.hid (by rw [HRk.out,if_neg (by rw [HMv.out];simp),if_neg (by rw [HPv.out];simp),if_neg (by rw [HAv.out];simp)])
         go_wp2_with fail
         refine (HNm.out HMv.out _ (HK.out _ HB5.out).2.2).mono ?_
         rintro e w6 ⟨rfl,hb⟩
         have HB6:=Lib.hid (HB5.out.trans (hb.mono HB5.out.size))
         clear hb e0 e1 e2 e3 e4 e5 e6 f0 f1 f2 f3 f4 f5 f6
         obtain ⟨⟨f0,f1,f2,f3,f4,f5,f6⟩,hE,_⟩:=HK.out _ HB6.out
         have e0:=hE.c0
         have e1:=hE.c1
         have e2:=hE.c2
         have e3:=hE.c3
         have e4:=hE.c4
         have e5:=hE.c5
         have e6:=hE.c6
         clear hE
         by_cases h7:E7=0
         ·have HRo:Hid (R=E8):=Lib.hid (by rw [HRn.out,if_pos h7])
          subst h7
          have HRp:Hid (R=0):=Lib.hid (by rw [HRo.out];exact HE8.out (by first | rfl | trivial) hA0.out)
          go_wp2_with fail
          go_ret
          exact ⟨by rw [HRp.out];rfl,(HK.out _ HB6.out).2.2⟩
         ·have HRo:Hid (R=E7):=Lib.hid (by rw [HRn.out,if_neg h7])
          have hb7:(E7 == 0)=false:=beq_eq_false_iff_ne.2 h7
          clear h7
          go_wp2_with fail
          go_ret
          exact ⟨by rw [HRo.out];rfl,(HK.out _ HB6.out).2.2⟩
        ·have a1:(0:Int) < (al:Int):=by omega
         have HAv:Hid (armsB kn al=false):=Lib.hid (by rw [HAB.out];simp <;> omega)
         clear ha0
         have HRm:Hid (R=7):=Lib.hid (by rw [HRk.out,if_neg (by rw [HMv.out];simp),if_neg (by rw [HPv.out];simp),if_pos HAv.out])
         go_wp2_with fail
         go_ret
         exact ⟨by rw [HRm.out];rfl,(HK.out _ HB5.out).2.2⟩
       ·by_cases ha9:(al:Int)≤9
        ·have a2:¬ (9:Int) < (al:Int):=by omega
         have HAv:Hid (armsB kn al=true):=Lib.hid (by rw [HAB.out];simp <;> omega)
         have HRn:Hid (R=if E7=0 then E8 else E7):=Lib.hid (by rw [HRk.out,if_neg (by rw [HMv.out];simp),if_neg (by rw [HPv.out];simp),if_neg (by rw [HAv.out];simp)])
         go_wp2_with fail
         refine (HNm.out HMv.out _ (HK.out _ HB5.out).2.2).mono ?_
         rintro e w6 ⟨rfl,hb⟩
         have HB6:=Lib.hid (HB5.out.trans (hb.mono HB5.out.size))
         clear hb e0 e1 e2 e3 e4 e5 e6 f0 f1 f2 f3 f4 f5 f6
         obtain ⟨⟨f0,f1,f2,f3,f4,f5,f6⟩,hE,_⟩:=HK.out _ HB6.out
         have e0:=hE.c0
         have e1:=hE.c1
         have e2:=hE.c2
         have e3:=hE.c3
         have e4:=hE.c4
         have e5:=hE.c5
         have e6:=hE.c6
         clear hE
         by_cases h7:E7=0
         ·have HRo:Hid (R=E8):=Lib.hid (by rw [HRn.out,if_pos h7])
          subst h7
          go_wp2_with fail
          refine (HAr.out (by first | rfl | trivial) _ (HK.out _ HB6.out).2.2).mono ?_
          rintro e w7 ⟨rfl,hb⟩
          have HB7:=Lib.hid (HB6.out.trans (hb.mono HB6.out.size))
          clear hb e0 e1 e2 e3 e4 e5 e6 f0 f1 f2 f3 f4 f5 f6
          go_wp2_with fail
          go_ret
          exact ⟨by rw [HRo.out];rfl,(HK.out _ HB7.out).2.2⟩
         ·have HRo:Hid (R=E7):=Lib.hid (by rw [HRn.out,if_neg h7])
          have hb7:(E7 == 0)=false:=beq_eq_false_iff_ne.2 h7
          clear h7
          go_wp2_with fail
          go_ret
          exact ⟨by rw [HRo.out];rfl,(HK.out _ HB6.out).2.2⟩
        ·have a2:(9:Int) < (al:Int):=by omega
         have HAv:Hid (armsB kn al=false):=Lib.hid (by rw [HAB.out];simp <;> omega)
         have HRm:Hid (R=7):=Lib.hid (by rw [HRk.out,if_neg (by rw [HMv.out];simp),if_neg (by rw [HPv.out];simp),if_pos HAv.out])
         go_wp2_with fail
         go_ret
         exact ⟨by rw [HRm.out];rfl,(HK.out _ HB5.out).2.2⟩
      ·have p1:((ll:Int) == x3)=false:=beq_eq_false_iff_ne.2 hp1
       clear hp1
       by_cases hk10:(kn:Int)=10
       ·have p2:((kn:Int) == 10)=true:=beq_iff_eq.2 hk10
        clear hk10
        by_cases hp4:(ll:Int)≤4
        ·have HPv:Hid (partsB kn ll=true):=Lib.hid (by rw [HPB.out,p1,p2];simp <;> omega)
         cases x4
         ·by_cases ha0:(al:Int)≤0
          ·obtain rfl:al=0:=by omega
           have hA0:=Lib.hid ha0
           have HAv:Hid (armsB kn 0=true):=Lib.hid (by rw [HAB.out];rfl)
           clear ha0
           have HRn:Hid (R=if E7=0 then E8 else E7):=Lib.hid (by rw [HRk.out,if_neg (by rw [HMv.out];simp),if_neg (by rw [HPv.out];simp),if_neg (by rw [HAv.out];simp)])
           go_wp2_with fail
           refine (HNm.out HMv.out _ (HK.out _ HB5.out).2.2).mono ?_
           rintro e w6 ⟨rfl,hb⟩
           have HB6:=Lib.hid (HB5.out.trans (hb.mono HB5.out.size))
           clear hb e0 e1 e2 e3 e4 e5 e6 f0 f1 f2 f3 f4 f5 f6
           obtain ⟨⟨f0,f1,f2,f3,f4,f5,f6⟩,hE,_⟩:=HK.out _ HB6.out
           have e0:=hE.c0
           have e1:=hE.c1
           have e2:=hE.c2
           have e3:=hE.c3
           have e4:=hE.c4
           have e5:=hE.c5
           have e6:=hE.c6
           clear hE
           by_cases h7:E7=0
           ·have HRo:Hid (R=E8):=Lib.hid (by rw [HRn.out,if_pos h7])
            subst h7
            have HRp:Hid (R=0):=Lib.hid (by rw [HRo.out];exact HE8.out (by first | rfl | trivial) hA0.out)
            go_wp2_with fail
            go_ret
            exact ⟨by rw [HRp.out];rfl,(HK.out _ HB6.out).2.2⟩
           ·have HRo:Hid (R=E7):=Lib.hid (by rw [HRn.out,if_neg h7])
            have hb7:(E7 == 0)=false:=beq_eq_false_iff_ne.2 h7
            clear h7
            go_wp2_with fail
            go_ret
            exact ⟨by rw [HRo.out];rfl,(HK.out _ HB6.out).2.2⟩
          ·have a1:(0:Int) < (al:Int):=by omega
           have HAv:Hid (armsB kn al=false):=Lib.hid (by rw [HAB.out];simp <;> omega)
           clear ha0
           have HRm:Hid (R=7):=Lib.hid (by rw [HRk.out,if_neg (by rw [HMv.out];simp),if_neg (by rw [HPv.out];simp),if_pos HAv.out])
           go_wp2_with fail
           go_ret
           exact ⟨by rw [HRm.out];rfl,(HK.out _ HB5.out).2.2⟩
         ·by_cases ha9:(al:Int)≤9
          ·have a2:¬ (9:Int) < (al:Int):=by omega
           have HAv:Hid (armsB kn al=true):=Lib.hid (by rw [HAB.out];simp <;> omega)
           have HRn:Hid (R=if E7=0 then E8 else E7):=Lib.hid (by rw [HRk.out,if_neg (by rw [HMv.out];simp),if_neg (by rw [HPv.out];simp),if_neg (by rw [HAv.out];simp)])
           go_wp2_with fail
           refine (HNm.out HMv.out _ (HK.out _ HB5.out).2.2).mono ?_
           rintro e w6 ⟨rfl,hb⟩
           have HB6:=Lib.hid (HB5.out.trans (hb.mono HB5.out.size))
           clear hb e0 e1 e2 e3 e4 e5 e6 f0 f1 f2 f3 f4 f5 f6
           obtain ⟨⟨f0,f1,f2,f3,f4,f5,f6⟩,hE,_⟩:=HK.out _ HB6.out
           have e0:=hE.c0
           have e1:=hE.c1
           have e2:=hE.c2
           have e3:=hE.c3
           have e4:=hE.c4
           have e5:=hE.c5
           have e6:=hE.c6
           clear hE
           by_cases h7:E7=0
           ·have HRo:Hid (R=E8):=Lib.hid (by rw [HRn.out,if_pos h7])
            subst h7
            go_wp2_with fail
            refine (HAr.out (by first | rfl | trivial) _ (HK.out _ HB6.out).2.2).mono ?_
            rintro e w7 ⟨rfl,hb⟩
            have HB7:=Lib.hid (HB6.out.trans (hb.mono HB6.out.size))
            clear hb e0 e1 e2 e3 e4 e5 e6 f0 f1 f2 f3 f4 f5 f6
            go_wp2_with fail
            go_ret
            exact ⟨by rw [HRo.out];rfl,(HK.out _ HB7.out).2.2⟩
           ·have HRo:Hid (R=E7):=Lib.hid (by rw [HRn.out,if_neg h7])
            have hb7:(E7 == 0)=false:=beq_eq_false_iff_ne.2 h7
            clear h7
            go_wp2_with fail
            go_ret
            exact ⟨by rw [HRo.out];rfl,(HK.out _ HB6.out).2.2⟩
          ·have a2:(9:Int) < (al:Int):=by omega
           have HAv:Hid (armsB kn al=false):=Lib.hid (by rw [HAB.out];simp <;> omega)
           have HRm:Hid (R=7):=Lib.hid (by rw [HRk.out,if_neg (by rw [HMv.out];simp),if_neg (by rw [HPv.out];simp),if_pos HAv.out])
           go_wp2_with fail
           go_ret
           exact ⟨by rw [HRm.out];rfl,(HK.out _ HB5.out).2.2⟩
        ·have HPv:Hid (partsB kn ll=false):=Lib.hid (by rw [HPB.out,p1,p2];simp <;> omega)
         have HRm:Hid (R=7):=Lib.hid (by rw [HRk.out];simp [HMv.out,HPv.out])
         go_wp2_with fail
         go_ret
         exact ⟨by rw [HRm.out];rfl,(HK.out _ HB5.out).2.2⟩
       ·have p2:((kn:Int) == 10)=false:=beq_eq_false_iff_ne.2 hk10
        clear hk10
        have HPv:Hid (partsB kn ll=false):=Lib.hid (by rw [HPB.out,p1,p2];rfl)
        have HRm:Hid (R=7):=Lib.hid (by rw [HRk.out];simp [HMv.out,HPv.out])
        go_wp2_with fail
        go_ret
        exact ⟨by rw [HRm.out];rfl,(HK.out _ HB5.out).2.2⟩
     ·have m1:((nl:Int) == x2)=false:=beq_eq_false_iff_ne.2 hm1
      clear hm1
      by_cases hk17:(kn:Int)=17
      ·have m2:((kn:Int) == 17)=true:=beq_iff_eq.2 hk17
       have HK17:=Lib.hid hk17
       clear hk17
       by_cases hl1:(1:Int)≤(nl:Int)
       ·by_cases hl2:(nl:Int)≤13
        ·have HMv:Hid (manyB kn nl=true):=Lib.hid (by rw [HMB.out,m1,m2];simp <;> omega)
         by_cases hp1:(ll:Int)=x3
         ·have p1:((ll:Int) == x3)=true:=beq_iff_eq.2 hp1
          have HPv:Hid (partsB kn ll=true):=Lib.hid (by rw [HPB.out,p1];rfl)
          clear hp1
          cases x4
          ·by_cases ha0:(al:Int)≤0
           ·obtain rfl:al=0:=by omega
            have hA0:=Lib.hid ha0
            have HAv:Hid (armsB kn 0=true):=Lib.hid (by rw [HAB.out];rfl)
            clear ha0
            have HRn:Hid (R=if E7=0 then E8 else E7):=Lib.hid (by rw [HRk.out,if_neg (by rw [HMv.out];simp),if_neg (by rw [HPv.out];simp),if_neg (by rw [HAv.out];simp)])
            go_wp2_with fail
            refine (HNm.out HMv.out _ (HK.out _ HB5.out).2.2).mono ?_
            rintro e w6 ⟨rfl,hb⟩
            have HB6:=Lib.hid (HB5.out.trans (hb.mono HB5.out.size))
            clear hb e0 e1 e2 e3 e4 e5 e6 f0 f1 f2 f3 f4 f5 f6
            obtain ⟨⟨f0,f1,f2,f3,f4,f5,f6⟩,hE,_⟩:=HK.out _ HB6.out
            have e0:=hE.c0
            have e1:=hE.c1
            have e2:=hE.c2
            have e3:=hE.c3
            have e4:=hE.c4
            have e5:=hE.c5
            have e6:=hE.c6
            clear hE
            by_cases h7:E7=0
            ·have HRo:Hid (R=E8):=Lib.hid (by rw [HRn.out,if_pos h7])
             subst h7
             have HRp:Hid (R=0):=Lib.hid (by rw [HRo.out];exact HE8.out (by first | rfl | trivial) hA0.out)
             go_wp2_with fail
             go_ret
             exact ⟨by rw [HRp.out];rfl,(HK.out _ HB6.out).2.2⟩
            ·have HRo:Hid (R=E7):=Lib.hid (by rw [HRn.out,if_neg h7])
             have hb7:(E7 == 0)=false:=beq_eq_false_iff_ne.2 h7
             clear h7
             go_wp2_with fail
             go_ret
             exact ⟨by rw [HRo.out];rfl,(HK.out _ HB6.out).2.2⟩
           ·have a1:(0:Int) < (al:Int):=by omega
            have HAv:Hid (armsB kn al=false):=Lib.hid (by rw [HAB.out];simp <;> omega)
            clear ha0
            have HRm:Hid (R=7):=Lib.hid (by rw [HRk.out,if_neg (by rw [HMv.out];simp),if_neg (by rw [HPv.out];simp),if_pos HAv.out])
            go_wp2_with fail
            go_ret
            exact ⟨by rw [HRm.out];rfl,(HK.out _ HB5.out).2.2⟩
          ·by_cases ha9:(al:Int)≤9
           ·have a2:¬ (9:Int) < (al:Int):=by omega
            have HAv:Hid (armsB kn al=true):=Lib.hid (by rw [HAB.out];simp <;> omega)
            have HRn:Hid (R=if E7=0 then E8 else E7):=Lib.hid (by rw [HRk.out,if_neg (by rw [HMv.out];simp),if_neg (by rw [HPv.out];simp),if_neg (by rw [HAv.out];simp)])
            go_wp2_with fail
            refine (HNm.out HMv.out _ (HK.out _ HB5.out).2.2).mono ?_
            rintro e w6 ⟨rfl,hb⟩
            have HB6:=Lib.hid (HB5.out.trans (hb.mono HB5.out.size))
            clear hb e0 e1 e2 e3 e4 e5 e6 f0 f1 f2 f3 f4 f5 f6
            obtain ⟨⟨f0,f1,f2,f3,f4,f5,f6⟩,hE,_⟩:=HK.out _ HB6.out
            have e0:=hE.c0
            have e1:=hE.c1
            have e2:=hE.c2
            have e3:=hE.c3
            have e4:=hE.c4
            have e5:=hE.c5
            have e6:=hE.c6
            clear hE
            by_cases h7:E7=0
            ·have HRo:Hid (R=E8):=Lib.hid (by rw [HRn.out,if_pos h7])
             subst h7
             go_wp2_with fail
             refine (HAr.out (by first | rfl | trivial) _ (HK.out _ HB6.out).2.2).mono ?_
             rintro e w7 ⟨rfl,hb⟩
             have HB7:=Lib.hid (HB6.out.trans (hb.mono HB6.out.size))
             clear hb e0 e1 e2 e3 e4 e5 e6 f0 f1 f2 f3 f4 f5 f6
             go_wp2_with fail
             go_ret
             exact ⟨by rw [HRo.out];rfl,(HK.out _ HB7.out).2.2⟩
            ·have HRo:Hid (R=E7):=Lib.hid (by rw [HRn.out,if_neg h7])
             have hb7:(E7 == 0)=false:=beq_eq_false_iff_ne.2 h7
             clear h7
             go_wp2_with fail
             go_ret
             exact ⟨by rw [HRo.out];rfl,(HK.out _ HB6.out).2.2⟩
           ·have a2:(9:Int) < (al:Int):=by omega
            have HAv:Hid (armsB kn al=false):=Lib.hid (by rw [HAB.out];simp <;> omega)
            have HRm:Hid (R=7):=Lib.hid (by rw [HRk.out,if_neg (by rw [HMv.out];simp),if_neg (by rw [HPv.out];simp),if_pos HAv.out])
            go_wp2_with fail
            go_ret
            exact ⟨by rw [HRm.out];rfl,(HK.out _ HB5.out).2.2⟩
         ·have p1:((ll:Int) == x3)=false:=beq_eq_false_iff_ne.2 hp1
          clear hp1
          have p2:((kn:Int) == 10)=false:=beq_eq_false_iff_ne.2 (by have:=HK17.out;omega)
          have HPv:Hid (partsB kn ll=false):=Lib.hid (by rw [HPB.out,p1,p2];rfl)
          have HRm:Hid (R=7):=Lib.hid (by rw [HRk.out];simp [HMv.out,HPv.out])
          go_wp2_with fail
          go_ret
          exact ⟨by rw [HRm.out];rfl,(HK.out _ HB5.out).2.2⟩
        ·have HMv:Hid (manyB kn nl=false):=Lib.hid (by rw [HMB.out,m1,m2];simp <;> omega)
         by_cases hp1:(ll:Int)=x3
         ·have p1:((ll:Int) == x3)=true:=beq_iff_eq.2 hp1
          have HPv:Hid (partsB kn ll=true):=Lib.hid (by rw [HPB.out,p1];rfl)
          clear hp1
          have HRm:Hid (R=7):=Lib.hid (by rw [HRk.out];simp [HMv.out])
          go_wp2_with fail
          go_ret
          exact ⟨by rw [HRm.out];rfl,(HK.out _ HB5.out).2.2⟩
         ·have p1:((ll:Int) == x3)=false:=beq_eq_false_iff_ne.2 hp1
          clear hp1
          have p2:((kn:Int) == 10)=false:=beq_eq_false_iff_ne.2 (by have:=HK17.out;omega)
          have HPv:Hid (partsB kn ll=false):=Lib.hid (by rw [HPB.out,p1,p2];rfl)
          have HRm:Hid (R=7):=Lib.hid (by rw [HRk.out];simp [HMv.out])
          go_wp2_with fail
          go_ret
          exact ⟨by rw [HRm.out];rfl,(HK.out _ HB5.out).2.2⟩
       ·have HMv:Hid (manyB kn nl=false):=Lib.hid (by rw [HMB.out,m1,m2];simp <;> omega)
        by_cases hp1:(ll:Int)=x3
        ·have p1:((ll:Int) == x3)=true:=beq_iff_eq.2 hp1
         have HPv:Hid (partsB kn ll=true):=Lib.hid (by rw [HPB.out,p1];rfl)
         clear hp1
         have HRm:Hid (R=7):=Lib.hid (by rw [HRk.out];simp [HMv.out])
         go_wp2_with fail
         go_ret
         exact ⟨by rw [HRm.out];rfl,(HK.out _ HB5.out).2.2⟩
        ·have p1:((ll:Int) == x3)=false:=beq_eq_false_iff_ne.2 hp1
         clear hp1
         have p2:((kn:Int) == 10)=false:=beq_eq_false_iff_ne.2 (by have:=HK17.out;omega)
         have HPv:Hid (partsB kn ll=false):=Lib.hid (by rw [HPB.out,p1,p2];rfl)
         have HRm:Hid (R=7):=Lib.hid (by rw [HRk.out];simp [HMv.out])
         go_wp2_with fail
         go_ret
         exact ⟨by rw [HRm.out];rfl,(HK.out _ HB5.out).2.2⟩
      ·have m2:((kn:Int) == 17)=false:=beq_eq_false_iff_ne.2 hk17
       clear hk17
       have HMv:Hid (manyB kn nl=false):=Lib.hid (by rw [HMB.out,m1,m2];rfl)
       by_cases hp1:(ll:Int)=x3
       ·have p1:((ll:Int) == x3)=true:=beq_iff_eq.2 hp1
        have HPv:Hid (partsB kn ll=true):=Lib.hid (by rw [HPB.out,p1];rfl)
        clear hp1
        have HRm:Hid (R=7):=Lib.hid (by rw [HRk.out];simp [HMv.out])
        go_wp2_with fail
        go_ret
        exact ⟨by rw [HRm.out];rfl,(HK.out _ HB5.out).2.2⟩
       ·have p1:((ll:Int) == x3)=false:=beq_eq_false_iff_ne.2 hp1
        clear hp1
        by_cases hk10:(kn:Int)=10
        ·have p2:((kn:Int) == 10)=true:=beq_iff_eq.2 hk10
         clear hk10
         by_cases hp4:(ll:Int)≤4
         ·have HPv:Hid (partsB kn ll=true):=Lib.hid (by rw [HPB.out,p1,p2];simp <;> omega)
          have HRm:Hid (R=7):=Lib.hid (by rw [HRk.out];simp [HMv.out])
          go_wp2_with fail
          go_ret
          exact ⟨by rw [HRm.out];rfl,(HK.out _ HB5.out).2.2⟩
         ·have HPv:Hid (partsB kn ll=false):=Lib.hid (by rw [HPB.out,p1,p2];simp <;> omega)
          have HRm:Hid (R=7):=Lib.hid (by rw [HRk.out];simp [HMv.out])
          go_wp2_with fail
          go_ret
          exact ⟨by rw [HRm.out];rfl,(HK.out _ HB5.out).2.2⟩
        ·have p2:((kn:Int) == 10)=false:=beq_eq_false_iff_ne.2 hk10
         clear hk10
         have HPv:Hid (partsB kn ll=false):=Lib.hid (by rw [HPB.out,p1,p2];rfl)
         have HRm:Hid (R=7):=Lib.hid (by rw [HRk.out];simp [HMv.out])
         go_wp2_with fail
         go_ret
         exact ⟨by rw [HRm.out];rfl,(HK.out _ HB5.out).2.2⟩
 ·have HRm:Hid (R=1):=Lib.hid (by rw [HR.out];exact if_neg hk)
  have HI1:Hid (∀ wx,Calls Tryz.prog 78 #[.int .i64 k,.int .i64 0,.int .i64 19] wx fun e w'=>e=.returned (.bool false)∧wx=w'):=Lib.hid (fun wx=>(In_any _ _ _ wx).mono fun e w' h=>⟨by rw [h.1];apply ret_bool;simp;omega,h.2⟩)
  obtain ⟨nl,hnl⟩:∃ q,q=ns.length:=⟨_,rfl⟩
  obtain ⟨ll,hll⟩:∃ q,q=l.length:=⟨_,rfl⟩
  obtain ⟨al,hal⟩:∃ q,q=bs.length:=⟨_,rfl⟩
  rw [← hnl,← hll,← hal]
  clear hnl hll hal hk
  obtain ⟨W1,hW1⟩:∃ W1,w.alloc (.cells #[.int .i64 k,.int .i64 n,.string (strB xs),.string (strB xt),.slice A0 nl c0,.slice A1 ll c1,.slice A2 al c2] 27)=W1:=⟨_,rfl⟩
  have HB1:Hid (Below w.heap.size w W1):=Lib.hid (by rw [← hW1];exact (Below.refl _ _).alloc (Nat.le_refl _) _)
  have HE1:Hid (EB W1 w.heap.size (.int .i64 k) (.int .i64 n) (.string (strB xs)) (.string (strB xt)) (.slice A0 nl c0) (.slice A1 ll c1) (.slice A2 al c2)):=Lib.hid (by rw [← hW1];exact EB.new w _ _ _ _ _ _ _)
  go_enter Tryz.func50,Tryz.ntmps50
  go_wp2_with fail
  clear hW1
  refine (shapes_any W1).mono ?_
  rintro e w2 ⟨Ash,rfl,_,hb⟩
  have HE2:=Lib.hid (HE1.out.kept (grown_below hb none) (by simp))
  have HB2:=Lib.hid (HB1.out.trans (hb.mono HB1.out.size))
  have g0:=HE2.out.c0
  clear hb
  go_wp2_with fail
  refine (HI1.out _).mono ?_
  rintro e w2' ⟨rfl,rfl⟩
  go_wp2_with fail
  go_ret
  exact ⟨by rw [HRm.out];rfl,HB2.out⟩
theorem firstF_append (chk:Ex→Int):∀ (a b:List (Int × Ex)),firstF chk (a++b)=if firstF chk a=0 then firstF chk b else firstF chk a
 | [],b=>by simp [firstF]
 | (d,x) :: r,b=>by
  rw [List.cons_append,firstF,firstF,firstF_append chk r b]
  by_cases h:chk x=0
  ·rw [if_pos h,if_pos h]
  ·rw [if_neg h,if_neg h,if_neg h]
mutual
theorem firstF_lvl (chk:Ex→Int):∀ (e:Ex) (d d':Int),firstF chk (nodesE d e)=firstF chk (nodesE d' e)
 | .mk k n s t ns l ops bs,d,d'=>by
  rw [nodesE,nodesE,firstF,firstF,firstF_append,firstF_append,firstF_lvls chk l (d+1) (d'+1),firstF_lvls chk bs (d+1) (d'+1)]
theorem firstF_lvls (chk:Ex→Int):∀ (l:List Ex) (d d':Int),firstF chk (nodesL d l)=firstF chk (nodesL d' l)
 | [],d,d'=>by rw [nodesL,nodesL]
 | x :: r,d,d'=>by
  rw [nodesL,nodesL,firstF_append,firstF_append,firstF_lvl chk x d d',firstF_lvls chk r d d']
end
def ckP (e:Ex):Int:=firstF chkN (nodesE 1 e)
def ckL:List Ex→Int
 | []=>0
 | x :: r=>if ckP x=0 then ckL r else ckP x
theorem ckL_nodes:∀ (l:List Ex) (d:Int),firstF chkN (nodesL d l)=ckL l
 | [],d=>by rw [nodesL,ckL,firstF]
 | x :: r,d=>by
  rw [nodesL,firstF_append,ckL_nodes r d,ckL,firstF_lvl chkN x d 1]
  rfl
theorem ckL_append:∀ (a b:List Ex),ckL (a++b)=if ckL a=0 then ckL b else ckL a
 | [],b=>by simp [ckL]
 | x :: r,b=>by
  rw [List.cons_append,ckL,ckL,ckL_append r b]
  by_cases h:ckP x=0
  ·rw [if_pos h,if_pos h]
  ·rw [if_neg h,if_neg h,if_neg h]
theorem ckP_step (e:Ex):ckP e=if chkN e=0 then ckL e.parts else chkN e:=by
 cases e with
 | mk k n s t ns l ops bs =>
  unfold ckP
  rw [nodesE,firstF,firstF_append,ckL_nodes l,ckL_nodes bs]
  show _=if chkN _=0 then ckL (l++bs) else chkN _
  rw [ckL_append]
theorem ckL_snoc (l:List Ex)(x:Ex):ckL (l++[x])=if ckL l=0 then ckP x else ckL l:=by
 rw [ckL_append,ckL,ckL]
 by_cases h:ckP x=0
 ·rw [if_pos h,h]
 ·rw [if_neg h]
def NmOk (e:Ex):Prop:=∀ q∈nodesE 1 e,q.2.ns.length≤1000∧(∀ o∈q.2.ops,o.2.length≤1000)∧q.2.l.length≤50∧q.2.bs.length≤50
theorem NmOk.part {e x:Ex}(h:NmOk e)(hx:x∈e.parts):NmOk x:=by
 cases e with
 | mk k n s t ns l ops bs =>
  intro q hq
  have h2:∀ q∈nodesE (1+1) x,q.2.ns.length≤1000∧(∀ o∈q.2.ops,o.2.length≤1000)∧q.2.l.length≤50∧q.2.bs.length≤50:=fun q hq=>h q (by
   simp only [nodesE,List.mem_cons,List.mem_append]
   rcases List.mem_append.1 (show x∈l++bs from hx) with hx | hx
   ·exact .inr (.inl (mem_nodesL hx hq))
   ·exact .inr (.inr (mem_nodesL hx hq)))
  exact nodesE_snd (fun e=>e.ns.length≤1000∧(∀ o∈e.ops,o.2.length≤1000)∧e.l.length≤50∧e.bs.length≤50) x (1+1) 1 h2 q hq
theorem NmOk.self {e:Ex}(h:NmOk e):e.ns.length≤1000∧(∀ o∈e.ops,o.2.length≤1000)∧e.l.length≤50∧e.bs.length≤50:=h (1,e) (by cases e;simp [nodesE])
def CkSays (e:Ex):Prop:=NmOk e→∀ (k n:Int) (s t:ByteArray) (A0:Option Addr) (n0 c0:Nat) (A1:Option Addr) (n1 c1:Nat) (A2:Option Addr) (n2 c2:Nat) (w:World),RepE (fun _=>True) w e [.int .i64 k,.int .i64 n,.string s,.string t,.slice A0 n0 c0,.slice A1 n1 c1,.slice A2 n2 c2] →
 Calls Tryz.prog 18 #[.agg #[.int .i64 k,.int .i64 n,.string s,.string t,.slice A0 n0 c0,.slice A1 n1 c1,.slice A2 n2 c2]] w fun r w'=>r=.returned (.int .i64 (ckP e))∧Below w.heap.size w w'
set_option maxRecDepth 100000 in
set_option maxHeartbeats 4000000 in
theorem checked_any:∀ e,CkSays e:=by
 refine Ex.ind fun e ih=>?_
 intro hok k n s t A0 n0 c0 A1 n1 c1 A2 n2 c2 w hre
 obtain ⟨W1,hW1⟩:∃ W1,w.alloc (.cells #[.int .i64 k,.int .i64 n,.string s,.string t,.slice A0 n0 c0,.slice A1 n1 c1,.slice A2 n2 c2] 27)=W1:=⟨_,rfl⟩
 have HB1:Hid (Below w.heap.size w W1):=Lib.hid (by rw [← hW1];exact (Below.refl _ _).alloc (Nat.le_refl _) _)
 have HE1:Hid (EB W1 w.heap.size (.int .i64 k) (.int .i64 n) (.string s) (.string t) (.slice A0 n0 c0) (.slice A1 n1 c1) (.slice A2 n2 c2)):=Lib.hid (by rw [← hW1];exact EB.new w _ _ _ _ _ _ _)
 obtain ⟨z1,z2,z3,z4⟩:=hok.self
 obtain ⟨R,hR⟩:∃ R,R=ckP e:=⟨_,rfl⟩
 obtain ⟨E1,hE1⟩:∃ E1,E1=chkN e:=⟨_,rfl⟩
 obtain ⟨L,hL⟩:∃ L,L=e.parts:=⟨_,rfl⟩
 have HR:Hid (R=if E1=0 then ckL L else E1):=Lib.hid (by rw [hR,ckP_step,hE1,hL])
 have HNd:Hid (∀ w',Below w.heap.size w w'→Calls Tryz.prog 50 #[.agg #[.int .i64 k,.int .i64 n,.string s,.string t,.slice A0 n0 c0,.slice A1 n1 c1,.slice A2 n2 c2]] w' fun r w2=>r=.returned (.int .i64 E1)∧Below w'.heap.size w' w2):=Lib.hid (fun w' hb=>by
  rw [hE1];exact node_any e k n s t A0 n0 c0 A1 n1 c1 A2 n2 c2 w' (hre.keep (Same.of_below hb)) z1 z2)
 have HPt:=Lib.hid (fun w' (hb:Below w.heap.size w w')=>Parts_any _ e k n s t A0 n0 c0 A1 n1 c1 A2 n2 c2 w' (hre.keep (Same.of_below hb)) ⟨by omega,by omega⟩)
 have HIH:Hid (∀ x∈L,CkSays x∧NmOk x):=Lib.hid (fun x hx=>⟨ih x (by rw [← hL];exact hx),hok.part (by rw [← hL];exact hx)⟩)
 have HL:=Lib.hid hL
 obtain ⟨np,hnp⟩:∃ q,q=L.length:=⟨_,rfl⟩
 have hpl:np≤1000:=by rw [hnp,hL];unfold Ex.parts;rw [List.length_append];omega
 have HNP:=Lib.hid hnp
 rw [← hR]
 have e0:=HE1.out.c0
 have e1:=HE1.out.c1
 have e2:=HE1.out.c2
 have e3:=HE1.out.c3
 have e4:=HE1.out.c4
 have e5:=HE1.out.c5
 have e6:=HE1.out.c6
 clear hR hE1 hL hnp hre hok ih z1 z2 z3 z4
 go_enter Tryz.func18,Tryz.ntmps18
 go_wp2_with fail
 clear hW1
 refine (HNd.out W1 HB1.out).mono ?_
 rintro r w2 ⟨rfl,hb⟩
 have HB2:=Lib.hid (HB1.out.trans (hb.mono HB1.out.size))
 have HE2:=Lib.hid (HE1.out.kept (grown_below hb none) (by simp))
 clear hb e0 e1 e2 e3 e4 e5 e6
 have e0:=HE2.out.c0
 have e1:=HE2.out.c1
 have e2:=HE2.out.c2
 have e3:=HE2.out.c3
 have e4:=HE2.out.c4
 have e5:=HE2.out.c5
 have e6:=HE2.out.c6
 by_cases h1:E1=0
 ·have HR1:Hid (R=ckL L):=Lib.hid (by rw [HR.out,if_pos h1])
  subst h1
  clear HR HNd
  go_wp2_with fail
  refine (HPt.out w2 HB2.out).mono ?_
  rintro r w5 ⟨A,c,rfl,hpa,hb⟩
  have HB5:=Lib.hid (HB2.out.trans (hb.mono HB2.out.size))
  have HPA:=Lib.hid hpa
  rw [← HL.out] at HPA ⊢
  rw [← HNP.out]
  clear hb hpa e0 e1 e2 e3 e4 e5 e6 HPt
  go_wp2_with fail
  go_loopw [5] (fun iv wr=>∃ kk:Nat,kk≤np∧iv=.int .i64 (kk:Int)∧Hid (Below w5.heap.size w5 wr)∧Hid (ckL (L.take kk)=0)) (fun iv _=>np - (intOf iv).toNat)
  case atStart=>exact ⟨0,Nat.zero_le _,rfl,Lib.hid (Below.refl _ _),Lib.hid rfl⟩
  case round =>
   obtain ⟨kk,hkk,rfl,hB,hZ⟩:=hrel
   have HBr:=Lib.hid (HB5.out.trans (hB.out.mono HB5.out.size))
   have j0:(0:Int)≤(kk:Int):=by omega
   by_cases hkl:kk < np
   ·have hkl':kk < L.length:=by rw [← HNP.out];exact hkl
    have i1:(kk:Int) < (np:Int):=by omega
    obtain ⟨x,hx⟩:∃ x,x=L[kk]:=⟨_,rfl⟩
    have HXl:Hid (L[kk]?=some x):=Lib.hid (by rw [hx];exact List.getElem?_eq_getElem hkl')
    obtain ⟨hck,hnm⟩:=HIH.out x (by rw [hx];exact List.getElem_mem hkl')
    have HTk:Hid (ckL (L.take (kk+1))=ckP x):=Lib.hid (by rw [take_succ_of hkl',ckL_snoc,← hx,if_pos hZ.out])
    have HTd:Hid (ckL L=if ckP x=0 then ckL (L.drop (kk+1)) else ckP x):=Lib.hid (by
     have h1:ckL (L.take kk++L.drop kk)=if ckP x=0 then ckL (L.drop (kk+1)) else ckP x:=by rw [ckL_append,if_pos hZ.out,List.drop_eq_getElem_cons hkl',ckL,← hx]
     rw [List.take_append_drop] at h1
     exact h1)
    obtain ⟨b,off,rfl⟩:=HPA.out.addr (by rw [← HNP.out];omega)
    obtain ⟨⟨hb1,hb2⟩,k0,m0,s0,t0,B0,q0,r0,B1,q1,r1,B2,q2,r2,hc⟩:=HPA.out.at HXl.out
    obtain ⟨E2,hE2⟩:∃ E2,E2=ckP x:=⟨_,rfl⟩
    have HCx:Hid (∀ w',Below w5.heap.size w5 w'→Calls Tryz.prog 18 #[.agg #[.int .i64 k0,.int .i64 m0,.string s0,.string t0,.slice B0 q0 r0,.slice B1 q1 r1,.slice B2 q2 r2]] w' fun r w2=>r=.returned (.int .i64 E2)∧Below w'.heap.size w' w2):=Lib.hid (fun w' hb=>by
     rw [hE2];exact hck hnm k0 m0 s0 t0 B0 q0 r0 B1 q1 r1 B2 q2 r2 w' ((hc.rep.keep (Same.of_below hb)).weaken (fun _ _=>trivial)))
    rw [← hE2] at HTk HTd
    have kp:∀ o,wr.cell? ⟨b,o,none⟩=w5.cell? ⟨b,o,none⟩:=fun o=>Below.cell (p:=⟨b,o,none⟩) hB.out hb1
    have d0:=(kp _).trans hc.d0
    have d1:=(kp _).trans hc.d1
    have d2:=(kp _).trans hc.d2
    have d3:=(kp _).trans hc.d3
    have d4:=(kp _).trans hc.d4
    have d5:=(kp _).trans hc.d5
    have d6:=(kp _).trans hc.d6
    clear hc hck hnm hx hE2 kp
    go_wp2_with fail
    refine (HCx.out wr hB.out).mono ?_
    rintro r w6 ⟨rfl,hb⟩
    have HB6:=Lib.hid (hB.out.trans (hb.mono hB.out.size))
    clear hb d0 d1 d2 d3 d4 d5 d6
    by_cases h2:E2=0
    ·have HZ2:Hid (ckL (L.take (kk+1))=0):=Lib.hid (by rw [HTk.out,h2])
     subst h2
     go_wp2_with fail
     go_roundw
     case rel=>exact ⟨kk+1,by omega,by go_num,HB6,HZ2⟩
     case measure=>simp [intOf];omega
    ·have HRm:Hid (R=E2):=Lib.hid (by rw [HR1.out,HTd.out,if_neg h2])
     have hb2:(E2 == 0)=false:=beq_eq_false_iff_ne.2 h2
     clear h2
     go_wp2_with fail
     go_ret
     exact ⟨by rw [HRm.out];rfl,HB5.out.trans (HB6.out.mono HB5.out.size)⟩
   ·obtain rfl:kk=np:=by omega
    have HRm:Hid (R=0):=Lib.hid (by rw [HR1.out,← hZ.out,List.take_of_length_le (by rw [HNP.out];exact Nat.le_refl _)])
    go_wp2_with fail
    go_ret
    exact ⟨by rw [HRm.out];rfl,HBr.out⟩
 ·have HR1:Hid (R=E1):=Lib.hid (by rw [HR.out,if_neg h1])
  have hb1:(E1 == 0)=false:=beq_eq_false_iff_ne.2 h1
  clear h1 HR
  go_wp2_with fail
  go_ret
  exact ⟨by rw [HR1.out];rfl,HB2.out⟩
def RlSays (e:Ex):Prop:=NmOk e→∀ (k n:Int) (s t:ByteArray) (A0:Option Addr) (n0 c0:Nat) (A1:Option Addr) (n1 c1:Nat) (A2:Option Addr) (n2 c2:Nat) (nodes d:Int) (w:World),0≤nodes→nodes≤3000→0≤d→d≤200→RepE (fun _=>True) w e [.int .i64 k,.int .i64 n,.string s,.string t,.slice A0 n0 c0,.slice A1 n1 c1,.slice A2 n2 c2] →
 Calls Tryz.prog 17 #[.agg #[.int .i64 k,.int .i64 n,.string s,.string t,.slice A0 n0 c0,.slice A1 n1 c1,.slice A2 n2 c2],.int .i64 nodes,.int .i64 d] w fun r w'=>r=.returned (.int .i64 (rlP e nodes d))∧Below w.heap.size w w'
set_option maxRecDepth 100000 in
set_option maxHeartbeats 4000000 in
theorem rleft_any:∀ e,RlSays e:=by
 refine Ex.ind fun e ih=>?_
 intro hok k n s t A0 n0 c0 A1 n1 c1 A2 n2 c2 N D w hN1 hN2 hD1 hD2 hre
 obtain ⟨W1,hW1⟩:∃ W1,w.alloc (.cells #[.int .i64 k,.int .i64 n,.string s,.string t,.slice A0 n0 c0,.slice A1 n1 c1,.slice A2 n2 c2] 27)=W1:=⟨_,rfl⟩
 have HB1:Hid (Below w.heap.size w W1):=Lib.hid (by rw [← hW1];exact (Below.refl _ _).alloc (Nat.le_refl _) _)
 have HE1:Hid (EB W1 w.heap.size (.int .i64 k) (.int .i64 n) (.string s) (.string t) (.slice A0 n0 c0) (.slice A1 n1 c1) (.slice A2 n2 c2)):=Lib.hid (by rw [← hW1];exact EB.new w _ _ _ _ _ _ _)
 have hz:w.heap.size < W1.heap.size:=HE1.out.lt
 have hre1:=(hre.keep (Same.of_below HB1.out)).tight.weaken (Q:=fun b=>b < W1.heap.size) (fun x hx=>hx.2)
 obtain ⟨_,_,z3,z4⟩:=hok.self
 cases e with
 | mk k' n' s' t' ns l ops bs =>
 simp only [Ex.l,Ex.bs] at z3 z4
 obtain ⟨An,cn,Al,cl',Aa,ca,e,hf,hn,hL,hA,ho⟩:=hre1
 simp only [exCells,List.cons.injEq,Value.int.injEq,Value.string.injEq,Value.slice.injEq,and_true,true_and] at e
 obtain ⟨rfl,rfl,rfl,rfl,⟨rfl,rfl,rfl⟩,⟨rfl,rfl,rfl⟩,rfl,rfl,rfl⟩:=e
 have HPL:Hid (PartsAt W1.heap.size W1 A1 l):=Lib.hid (parts_of hL)
 have HPA:Hid (ArmsAt W1.heap.size W1 A2 ops bs):=Lib.hid (arms_of hA)
 have HO:=Lib.hid ho
 have HIH:Hid (∀ x∈l++bs,RlSays x∧NmOk x):=Lib.hid (fun x hx=>⟨ih x hx,hok.part hx⟩)
 obtain ⟨R,hR⟩:∃ R,R=rlP (.mk k n s' t' ns l ops bs) N D:=⟨_,rfl⟩
 have HR:Hid (R=if D < 1 then -1 else rlL (l++bs) (N - 1) (D - 1)):=Lib.hid (by rw [hR,rlP_parts];rfl)
 obtain ⟨ll,hll⟩:∃ q,q=l.length:=⟨_,rfl⟩
 obtain ⟨al,hal⟩:∃ q,q=bs.length:=⟨_,rfl⟩
 obtain ⟨nl,hnl⟩:∃ q,q=ns.length:=⟨_,rfl⟩
 have HLL:=Lib.hid hll
 have HAL:=Lib.hid hal
 rw [← hll] at z3
 rw [← hal] at z4
 rw [← hR]
 rw [← hll,← hal,← hnl] at hW1 HE1 ⊢
 have e5:=HE1.out.c5
 have e6:=HE1.out.c6
 clear hR hll hal hnl hre hok ih hf hn hL hA ho
 have hNw:IntKind.i64.wrap (N - 1)=N - 1:=IntWalk.i64_in _ (by omega)
 have hDw:IntKind.i64.wrap (D - 1)=D - 1:=IntWalk.i64_in _ (by omega)
 by_cases hd:D < 1
 ·have HRm:Hid (R=-1):=Lib.hid (by rw [HR.out,if_pos hd])
  go_enter Tryz.func17,Tryz.ntmps17
  go_wp2_with fail
  go_ret
  exact ⟨by rw [HRm.out];rfl,by first | exact HB1.out | (rw [hW1];exact HB1.out)⟩
 ·have HRm:Hid (R=rlL (l++bs) (N - 1) (D - 1)):=Lib.hid (by rw [HR.out,if_neg hd])
  go_enter Tryz.func17,Tryz.ntmps17
  go_wp2_with fail
  clear hW1
  go_loopw [1,8] (fun nv iv wr=>∃ kk:Nat,kk≤ll+al∧nv=.int .i64 (rlL ((l++bs).take kk) (N - 1) (D - 1))∧iv=.int .i64 (kk:Int)∧Hid (Below W1.heap.size W1 wr)) (fun _ iv _=>ll+al - (intOf iv).toNat)
  case atStart=>exact ⟨0,Nat.zero_le _,rfl,rfl,Lib.hid (Below.refl _ _)⟩
  case round =>
   obtain ⟨kk,hkk,rfl,rfl,hB⟩:=hrel
   have HBr:=Lib.hid (HB1.out.trans (hB.out.mono HB1.out.size))
   have HEr:=Lib.hid (HE1.out.kept (grown_below hB.out none) (by simp))
   clear e5 e6
   have e5:=HEr.out.c5
   have e6:=HEr.out.c6
   have j0:(0:Int)≤(kk:Int):=by omega
   have hlo:=rlL_lo ((l++bs).take kk) (N - 1) (D - 1) (by omega)
   obtain ⟨V,hV⟩:∃ V,V=rlL ((l++bs).take kk) (N - 1) (D - 1):=⟨_,rfl⟩
   have HV:=Lib.hid hV
   rw [← hV] at hlo ⊢
   obtain ⟨v1,v2⟩:=hlo
   have HLen:Hid ((l++bs).length=ll+al):=Lib.hid (by rw [List.length_append,HLL.out,HAL.out])
   clear hV
   by_cases hkl:kk < ll+al
   ·have i1:(kk:Int) < (ll:Int)+(al:Int):=by omega
    by_cases hv:V < 0
    ·have HRn:Hid (R=V):=Lib.hid (by
      rw [HRm.out,← List.take_append_drop kk (l++bs),rlL_append,← HV.out,rlL_neg _ _ _ hv])
     have i2:¬ (0:Int)≤V:=by omega
     have i3:decide (V ≥ 0)=false:=decide_eq_false (by omega)
     go_wp2_with fail
     go_ret
     exact ⟨by rw [HRn.out];rfl,HBr.out⟩
    ·have hkl':kk < (l++bs).length:=by rw [HLen.out];exact hkl
     have i2:(0:Int)≤V:=by omega
     have i3:decide (V ≥ 0)=true:=decide_eq_true (by omega)
     obtain ⟨x,hx⟩:∃ x,x=(l++bs)[kk]:=⟨_,rfl⟩
     have HMem:Hid (x∈l++bs):=Lib.hid (by rw [hx];exact List.getElem_mem hkl')
     have HTk:Hid (rlL ((l++bs).take (kk+1)) (N - 1) (D - 1)=rlP x V (D - 1)):=Lib.hid (by rw [take_succ_of hkl',rlL_snoc,← HV.out,if_neg hv,← hx])
     by_cases hl2:kk < ll
     ·have i4:(kk:Int) < (ll:Int):=by omega
      have HXl:Hid (l[kk]?=some x):=Lib.hid (by
       have h1:=List.getElem?_eq_getElem hkl'
       rw [← hx,List.getElem?_append_left (by rw [← HLL.out];exact hl2)] at h1;exact h1)
      obtain ⟨b,off,rfl⟩:=HPL.out.addr (by rw [← HLL.out];omega)
      obtain ⟨⟨hb1,hb2⟩,k0,m0,s0,t0,B0,q0,r0,B1,q1,r1,B2,q2,r2,hc⟩:=HPL.out.at HXl.out
      obtain ⟨hck,hnm⟩:=HIH.out x (HMem.out)
      have HCx:Hid (∀ w',Below W1.heap.size W1 w'→Calls Tryz.prog 17 #[.agg #[.int .i64 k0,.int .i64 m0,.string s0,.string t0,.slice B0 q0 r0,.slice B1 q1 r1,.slice B2 q2 r2],.int .i64 V,.int .i64 (D - 1)] w' fun r w2=>r=.returned (.int .i64 (rlP x V (D - 1)))∧Below w'.heap.size w' w2):=Lib.hid (fun w' hb=>hck hnm k0 m0 s0 t0 B0 q0 r0 B1 q1 r1 B2 q2 r2 V (D - 1) w' (by omega) (by omega) (by omega) (by omega) ((hc.rep.keep (Same.of_below hb)).weaken (fun _ _=>trivial)))
      have kp:∀ o,wr.cell? ⟨b,o,none⟩=W1.cell? ⟨b,o,none⟩:=fun o=>Below.cell (p:=⟨b,o,none⟩) hB.out hb1
      have d0:=(kp _).trans hc.d0
      have d1:=(kp _).trans hc.d1
      have d2:=(kp _).trans hc.d2
      have d3:=(kp _).trans hc.d3
      have d4:=(kp _).trans hc.d4
      have d5:=(kp _).trans hc.d5
      have d6:=(kp _).trans hc.d6
      clear hx
      clear hc hck hnm kp
      go_wp2_with fail
      refine (HCx.out wr hB.out).mono ?_
      rintro r w6 ⟨rfl,hb⟩
      have HB6:=Lib.hid (hB.out.trans (hb.mono hB.out.size))
      clear hb
      go_wp2_with fail
      go_roundw
      case rel=>exact ⟨kk+1,by omega,by rw [HTk.out],by go_num,HB6⟩
      case measure=>simp [intOf];omega
     ·obtain ⟨jj,hjj⟩:∃ jj,kk=ll+jj:=⟨kk - ll,by omega⟩
      have i4:¬ (kk:Int) < (ll:Int):=by omega
      have hjw:IntKind.i64.wrap ((kk:Int) - (ll:Int))=(jj:Int):=by rw [IntWalk.i64_in _ (by omega)];omega
      have i5:(0:Int)≤(jj:Int):=by omega
      have i6:(jj:Int) < (al:Int):=by omega
      have HJJ:=Lib.hid hjj
      have HXl:Hid (bs[jj]?=some x):=Lib.hid (by
       have h1:=List.getElem?_eq_getElem hkl'
       rw [← hx,List.getElem?_append_right (by rw [← HLL.out];omega),show kk - l.length=jj by rw [← HLL.out];omega] at h1;exact h1)
      have hjo:jj < ops.length:=by rw [HO.out,← HAL.out];omega
      obtain ⟨b,off,rfl,hb1',hb1,hcc⟩:=HPA.out (List.ne_nil_of_length_pos (by rw [← HAL.out];omega))
      obtain ⟨Ax,cx,k0,m0,s0,t0,B0,q0,r0,B1,q1,r1,B2,q2,r2,hc⟩:=hcc jj _ x (List.getElem?_eq_getElem hjo) HXl.out
      obtain ⟨hck,hnm⟩:=HIH.out x (HMem.out)
      have HCx:Hid (∀ w',Below W1.heap.size W1 w'→Calls Tryz.prog 17 #[.agg #[.int .i64 k0,.int .i64 m0,.string s0,.string t0,.slice B0 q0 r0,.slice B1 q1 r1,.slice B2 q2 r2],.int .i64 V,.int .i64 (D - 1)] w' fun r w2=>r=.returned (.int .i64 (rlP x V (D - 1)))∧Below w'.heap.size w' w2):=Lib.hid (fun w' hb=>hck hnm k0 m0 s0 t0 B0 q0 r0 B1 q1 r1 B2 q2 r2 V (D - 1) w' (by omega) (by omega) (by omega) (by omega) ((hc.rep.keep (Same.of_below hb)).weaken (fun _ _=>trivial)))
      have kp:∀ o,wr.cell? ⟨b,o,none⟩=W1.cell? ⟨b,o,none⟩:=fun o=>Below.cell (p:=⟨b,o,none⟩) hB.out hb1
      have d2:=(kp _).trans hc.d2
      have d3:=(kp _).trans hc.d3
      have d4:=(kp _).trans hc.d4
      have d5:=(kp _).trans hc.d5
      have d6:=(kp _).trans hc.d6
      have d7:=(kp _).trans hc.d7
      have d8:=(kp _).trans hc.d8
      clear hx hcc hjj
      clear hc hck hnm kp
      go_wp2_with fail
      refine (HCx.out wr hB.out).mono ?_
      rintro r w6 ⟨rfl,hb⟩
      have HB6:=Lib.hid (hB.out.trans (hb.mono hB.out.size))
      clear hb
      go_wp2_with fail
      go_roundw
      case rel=>exact ⟨kk+1,by omega,by rw [HTk.out],by go_num,HB6⟩
      case measure=>simp [intOf];omega
   ·obtain rfl:kk=ll+al:=by omega
    have HRn:Hid (R=V):=Lib.hid (by rw [HRm.out,HV.out,List.take_of_length_le (by rw [HLen.out];exact Nat.le_refl _)])
    have i1:¬ (((ll+al:Nat)):Int) < (ll:Int)+(al:Int):=by omega
    go_wp2_with fail
    go_ret
    exact ⟨by rw [HRn.out];rfl,HBr.out⟩
theorem msd_err (e:Ex):(msd chkN e).2.2=if (hE e:Int)≤200∧((nodesE 1 e).length:Int)≤3000 then ckP e else 3:=by
 have hm:=maxD_E e 0 1
 by_cases h:(hE e:Int)≤200∧((nodesE 1 e).length:Int)≤3000
 ·rw [if_pos h]
  have hv:=measF_val (nodesE 1 e) 0 0 (by omega) (by omega)
  unfold msd ckP
  rw [hv,if_neg (by simp only;omega)]
  split
  ·rename_i h0;rw [h0]
  ·rfl
 ·rw [if_neg h]
  unfold msd
  by_cases hc:3000 < (measF 0 0 (nodesE 1 e)).1∨200 < (measF 0 0 (nodesE 1 e)).2
  ·rw [if_pos hc]
  ·have g1:=measF_len (nodesE 1 e) 0 0 (by omega) (by omega)
   have g2:=measF_maxD (nodesE 1 e) 0 0 (by omega) (by omega)
   exact absurd ⟨by omega,by omega⟩ h
theorem rlP_msd (e:Ex):(rlP e 3000 200 < 0↔¬ ((hE e:Int)≤200∧((nodesE 1 e).length:Int)≤3000)):=by
 have g:=rlP_val e 3000 200 (by omega)
 by_cases h:(hE e:Int)≤200∧((nodesE 1 e).length:Int)≤3000
 ·rw [g.1 h]
  exact ⟨fun h2=>by omega,fun h2=>absurd h h2⟩
 ·exact ⟨fun _=>h,fun _=>g.2 h⟩
set_option maxRecDepth 100000 in
set_option maxHeartbeats 2000000 in
theorem rCheck_any (e:Ex)(hok:NmOk e)(k n:Int)(s t:ByteArray)(A0:Option Addr)(n0 c0:Nat)(A1:Option Addr)(n1 c1:Nat)(A2:Option Addr)(n2 c2:Nat)(w:World)(hre:RepE (fun _=>True) w e [.int .i64 k,.int .i64 n,.string s,.string t,.slice A0 n0 c0,.slice A1 n1 c1,.slice A2 n2 c2]) :
  Calls Tryz.prog 7 #[.agg #[.int .i64 k,.int .i64 n,.string s,.string t,.slice A0 n0 c0,.slice A1 n1 c1,.slice A2 n2 c2]] w fun r w'=>r=.returned (.int .i64 (msd chkN e).2.2)∧Below w.heap.size w w':=by
 obtain ⟨W1,hW1⟩:∃ W1,w.alloc (.cells #[.int .i64 k,.int .i64 n,.string s,.string t,.slice A0 n0 c0,.slice A1 n1 c1,.slice A2 n2 c2] 27)=W1:=⟨_,rfl⟩
 have HB1:Hid (Below w.heap.size w W1):=Lib.hid (by rw [← hW1];exact (Below.refl _ _).alloc (Nat.le_refl _) _)
 have HE1:Hid (EB W1 w.heap.size (.int .i64 k) (.int .i64 n) (.string s) (.string t) (.slice A0 n0 c0) (.slice A1 n1 c1) (.slice A2 n2 c2)):=Lib.hid (by rw [← hW1];exact EB.new w _ _ _ _ _ _ _)
 have HLf:Hid (∀ w',Below w.heap.size w w'→Calls Tryz.prog 17 #[.agg #[.int .i64 k,.int .i64 n,.string s,.string t,.slice A0 n0 c0,.slice A1 n1 c1,.slice A2 n2 c2],.int .i64 3000,.int .i64 200] w' fun r w2=>r=.returned (.int .i64 (rlP e 3000 200))∧Below w'.heap.size w' w2):=Lib.hid (fun w' hb=>rleft_any e hok k n s t A0 n0 c0 A1 n1 c1 A2 n2 c2 3000 200 w' (by omega) (by omega) (by omega) (by omega) (hre.keep (Same.of_below hb)))
 have HCk:Hid (∀ w',Below w.heap.size w w'→Calls Tryz.prog 18 #[.agg #[.int .i64 k,.int .i64 n,.string s,.string t,.slice A0 n0 c0,.slice A1 n1 c1,.slice A2 n2 c2]] w' fun r w2=>r=.returned (.int .i64 (ckP e))∧Below w'.heap.size w' w2):=Lib.hid (fun w' hb=>checked_any e hok k n s t A0 n0 c0 A1 n1 c1 A2 n2 c2 w' (hre.keep (Same.of_below hb)))
 have HM:=Lib.hid (msd_err e)
 have HV:=Lib.hid (rlP_msd e)
 obtain ⟨V,hV⟩:∃ V,V=rlP e 3000 200:=⟨_,rfl⟩
 obtain ⟨R,hR⟩:∃ R,R=(msd chkN e).2.2:=⟨_,rfl⟩
 obtain ⟨E,hE'⟩:∃ E,E=ckP e:=⟨_,rfl⟩
 rw [← hV] at HLf HV
 rw [← hR,← hE'] at HM
 rw [← hE'] at HCk
 rw [← hR]
 have e0:=HE1.out.c0
 have e1:=HE1.out.c1
 have e2:=HE1.out.c2
 have e3:=HE1.out.c3
 have e4:=HE1.out.c4
 have e5:=HE1.out.c5
 have e6:=HE1.out.c6
 clear hV hR hE' hre hok
 by_cases hv:V < 0
 ·have HRm:Hid (R=3):=Lib.hid (by rw [HM.out,if_neg (HV.out.1 hv)])
  go_enter Tryz.func7,Tryz.ntmps7
  go_wp2_with fail
  clear hW1
  refine (HLf.out W1 HB1.out).mono ?_
  rintro r w2 ⟨rfl,hb⟩
  have HB2:=Lib.hid (HB1.out.trans (hb.mono HB1.out.size))
  clear hb e0 e1 e2 e3 e4 e5 e6
  go_wp2_with fail
  go_ret
  exact ⟨by rw [HRm.out];rfl,HB2.out⟩
 ·have HRm:Hid (R=E):=Lib.hid (by rw [HM.out,if_pos (Classical.byContradiction fun h=>hv (HV.out.2 h))])
  go_enter Tryz.func7,Tryz.ntmps7
  go_wp2_with fail
  clear hW1
  refine (HLf.out W1 HB1.out).mono ?_
  rintro r w2 ⟨rfl,hb⟩
  have HB2:=Lib.hid (HB1.out.trans (hb.mono HB1.out.size))
  have HE2:=Lib.hid (HE1.out.kept (grown_below hb none) (by simp))
  clear hb e0 e1 e2 e3 e4 e5 e6
  have e0:=HE2.out.c0
  have e1:=HE2.out.c1
  have e2:=HE2.out.c2
  have e3:=HE2.out.c3
  have e4:=HE2.out.c4
  have e5:=HE2.out.c5
  have e6:=HE2.out.c6
  go_wp2_with fail
  refine (HCk.out w2 HB2.out).mono ?_
  rintro r w3 ⟨rfl,hb⟩
  have HB3:=Lib.hid (HB2.out.trans (hb.mono HB2.out.size))
  clear hb e0 e1 e2 e3 e4 e5 e6
  go_wp2_with fail
  go_ret
  exact ⟨by rw [HRm.out];rfl,HB3.out⟩
theorem NmOk.mk {e:Ex}(h:e.ns.length≤1000∧(∀ o∈e.ops,o.2.length≤1000)∧e.l.length≤50∧e.bs.length≤50)(hp:∀ x∈e.parts,NmOk x):NmOk e:=by
 cases e with
 | mk k n s t ns l ops bs =>
  intro q hq
  simp only [nodesE,List.mem_cons,List.mem_append] at hq
  have up:∀ x,NmOk x→∀ q∈nodesE (1+1) x,q.2.ns.length≤1000∧(∀ o∈q.2.ops,o.2.length≤1000)∧q.2.l.length≤50∧q.2.bs.length≤50:=fun x hx=>nodesE_snd (fun e=>e.ns.length≤1000∧(∀ o∈e.ops,o.2.length≤1000)∧e.l.length≤50∧e.bs.length≤50) x 1 (1+1) hx
  rcases hq with rfl | hq | hq
  ·exact h
  ·obtain ⟨x,hx,hq⟩:=mem_of_nodesL hq
   exact up x (hp x (List.mem_append_left _ hx)) q hq
  ·obtain ⟨x,hx,hq⟩:=mem_of_nodesL hq
   exact up x (hp x (List.mem_append_right _ hx)) q hq
theorem longP_len {ns:List (List UInt8)}(h:¬ longP ns=true):ns.length≤50:=by
 unfold longP at h
 simp at h
 omega
mutual
theorem leftP_ok:∀ (e:Ex) (nodes d:Int),evn e→0≤leftP e nodes d→NmOk e
 | .mk k n s t ns l ops bs,nodes,d,hv,h=>by
  obtain ⟨v1,v2,v3⟩:=hv.parts
  rw [leftP] at h
  split at h
  ·omega
  ·rename_i hc
   have c0:¬ longP ns=true:=fun h=>hc (.inr (.inr (.inr (.inl h))))
   have c2:¬ 50 < l.length:=fun h=>hc (.inr (.inr (.inr (.inr (.inl h)))))
   have c3:¬ 50 < bs.length:=fun h=>hc (.inr (.inr (.inr (.inr (.inr h)))))
   have h1:0≤leftL l (nodes - 1) (d - 1):=by
    by_cases h0:leftL l (nodes - 1) (d - 1) < 0
    ·rw [leftA_neg _ _ _ _ h0] at h;omega
    ·omega
   have g1:=leftL_ok l (nodes - 1) (d - 1) v2 h1
   have g2:=leftA_ok ops bs (leftL l (nodes - 1) (d - 1)) (d - 1) v1 v3 h
   have c4:=longP_len c0
   refine NmOk.mk ⟨by show ns.length≤1000;omega,fun o ho=>?_,by show l.length≤50;omega,by show bs.length≤50;omega⟩ fun x hx=>?_
   ·have:=g2.1 o ho;omega
   ·rcases List.mem_append.1 (show x∈l++bs from hx) with hx | hx
    ·exact g1 x hx
    ·exact g2.2 x hx
theorem leftL_ok:∀ (l:List Ex) (nodes d:Int),(∀ x∈l,evn x)→0≤leftL l nodes d→∀ x∈l,NmOk x
 | [],nodes,d,_,_=>fun x hx=>by simp at hx
 | e :: r,nodes,d,hv,h=>by
  rw [leftL] at h
  split at h
  ·omega
  ·have h1:0≤leftP e nodes d:=by
    by_cases h0:leftP e nodes d < 0
    ·rw [leftL_neg _ _ _ h0] at h;omega
    ·omega
   have g1:=leftP_ok e nodes d (hv e (by simp)) h1
   have g2:=leftL_ok r _ d (fun x hx=>hv x (by simp [hx])) h
   intro x hx
   rcases List.mem_cons.1 hx with rfl | hx
   ·exact g1
   ·exact g2 x hx
theorem leftA_ok:∀ (ops:List (Txt × List Txt)) (l:List Ex) (nodes d:Int),ops.length=l.length→(∀ x∈l,evn x)→0≤leftA ops l nodes d→(∀ o∈ops,o.2.length≤50)∧∀ x∈l,NmOk x
 | ops,[],nodes,d,hl,_,_=>by
  have:ops=[]:=List.length_eq_zero_iff.1 (by rw [hl];rfl)
  subst this
  exact ⟨fun o ho=>by simp at ho,fun x hx=>by simp at hx⟩
 | [],e :: r,nodes,d,hl,_,_=>by simp at hl
 | o :: q,e :: r,nodes,d,hl,hv,h=>by
  rw [leftA] at h
  split at h
  ·omega
  ·split at h
   ·omega
   ·rename_i hc
    have c0:¬ longP o.2=true:=fun h=>hc (.inr h)
    have c4:=longP_len c0
    have h1:0≤leftP e nodes d:=by
     by_cases h0:leftP e nodes d < 0
     ·rw [leftA_neg _ _ _ _ h0] at h;omega
     ·omega
    have g1:=leftP_ok e nodes d (hv e (by simp)) h1
    have g2:=leftA_ok q r _ d (by simpa using hl) (fun x hx=>hv x (by simp [hx])) h
    refine ⟨fun o' ho=>?_,fun x hx=>?_⟩
    ·rcases List.mem_cons.1 ho with rfl | ho
     ·exact c4
     ·exact g2.1 o' ho
    ·rcases List.mem_cons.1 hx with rfl | hx
     ·exact g1
     ·exact g2.2 x hx
end
theorem great_ok {e:Ex}(hv:evn e)(h:great e=false):NmOk e:=by
 unfold great at h
 exact leftP_ok e 4000 250 hv (by simpa using h)
theorem par_cat (l:Txt):(⟨#[40]⟩++strB l++⟨#[41]⟩:ByteArray)=strB ([40]++(l++[41])):=by
 apply ByteArray.ext
 apply Array.toList_inj.1
 simp [strB]
set_option maxRecDepth 100000 in
set_option maxHeartbeats 8000000 in
theorem back_law (e:Ex)(k n:Int)(s t:ByteArray)(A0:Option Addr)(n0 c0:Nat)(A1:Option Addr)(n1 c1:Nat)(A2:Option Addr)(n2 c2:Nat)(w:World)
  (hre:RepE (fun _=>True) w e [.int .i64 k,.int .i64 n,.string s,.string t,.slice A0 n0 c0,.slice A1 n1 c1,.slice A2 n2 c2]) (hEn:EnvS w) :
  Calls Tryz.prog 3 #[.agg #[.int .i64 k,.int .i64 n,.string s,.string t,.slice A0 n0 c0,.slice A1 n1 c1,.slice A2 n2 c2]] w fun r w'=>r=.returned (.bool true)∧Below w.heap.size w w':=by
 obtain ⟨w1,hW1⟩:∃ W1,w.alloc (.cells #[.int .i64 k,.int .i64 n,.string s,.string t,.slice A0 n0 c0,.slice A1 n1 c1,.slice A2 n2 c2] 27)=W1:=⟨_,rfl⟩
 have HB1:Hid (Below w.heap.size w w1):=Lib.hid (by rw [← hW1];exact (Below.refl _ _).alloc (Nat.le_refl _) _)
 have HE1:Hid (EB w1 w.heap.size (.int .i64 k) (.int .i64 n) (.string s) (.string t) (.slice A0 n0 c0) (.slice A1 n1 c1) (.slice A2 n2 c2)):=Lib.hid (by rw [← hW1];exact EB.new w _ _ _ _ _ _ _)
 have HRe:=Lib.hid hre
 have HEv:=Lib.hid (RepE.evn e ⟨_,hre⟩)
 have HEn:=Lib.hid hEn
 have HG:=Lib.hid (fun w' (hb:Below w.heap.size w w')=>Great_any (fun _=>True) e (.int .i64 k) (.int .i64 n) (.string s) (.string t) (.slice A0 n0 c0) (.slice A1 n1 c1) (.slice A2 n2 c2) w' (HRe.out.keep (Same.of_below hb)))
 obtain ⟨G,hG⟩:∃ G,G=great e:=⟨_,rfl⟩
 rw [← hG] at HG
 have e0:=HE1.out.c0
 have e1:=HE1.out.c1
 have e2:=HE1.out.c2
 have e3:=HE1.out.c3
 have e4:=HE1.out.c4
 have e5:=HE1.out.c5
 have e6:=HE1.out.c6
 clear hre hEn
 cases G with
 | true =>
  clear hG
  go_enter Tryz.func3,Tryz.ntmps3
  go_wp2_with fail
  clear hW1
  refine (HG.out w1 HB1.out).mono ?_
  rintro r w2 ⟨rfl,hb⟩
  have HB2:=Lib.hid (HB1.out.trans (hb.mono HB1.out.size))
  clear hb e0 e1 e2 e3 e4 e5 e6
  go_wp2_with fail
  refine (shows_any w2 (HEn.out.below HB2.out)).mono ?_
  rintro r w3 ⟨rfl,hb⟩
  have HB3:=Lib.hid (HB2.out.trans (hb.mono HB2.out.size))
  clear hb
  go_wp2_with fail
  go_ret
  exact ⟨rfl,HB3.out⟩
 | false =>
  have hgr:=great_hE HEv.out hG.symm
  have hok:=great_ok HEv.out hG.symm
  have HhE:Hid (hE e≤900000):=Lib.hid (by omega)
  obtain ⟨T,hT⟩:∃ V,V=strB (showS e).1:=⟨_,rfl⟩
  obtain ⟨U,hU⟩:∃ V,V=(msd chkN e).2.2:=⟨_,rfl⟩
  have hU':(showS e).2=U:=by
   unfold showS
   split
   ·rename_i h;rw [hU,h]
   ·exact hU.symm
  have HS:Hid (∀ w',Below w.heap.size w w'→Calls Tryz.prog 6 #[.agg #[.int .i64 k,.int .i64 n,.string s,.string t,.slice A0 n0 c0,.slice A1 n1 c1,.slice A2 n2 c2]] w' fun r w2=>r=.returned (.tuple #[.string T,.int .i64 U])∧Below w'.heap.size w' w2):=Lib.hid (fun w' hb=>by
   have:=Show_any _ e k n s t A0 n0 c0 A1 n1 c1 A2 n2 c2 w' (HRe.out.keep (Same.of_below hb)) HhE.out (HEn.out.below hb).2.1 (HEn.out.below hb).2.2
   rw [← hT,hU'] at this;exact this)
  have HRC:Hid (∀ w',Below w.heap.size w w'→Calls Tryz.prog 7 #[.agg #[.int .i64 k,.int .i64 n,.string s,.string t,.slice A0 n0 c0,.slice A1 n1 c1,.slice A2 n2 c2]] w' fun r w2=>r=.returned (.int .i64 U)∧Below w'.heap.size w' w2):=Lib.hid (fun w' hb=>by
   have:=rCheck_any e hok k n s t A0 n0 c0 A1 n1 c1 A2 n2 c2 w' (HRe.out.keep (Same.of_below hb))
   rw [← hU] at this;exact this)
  have HTe:=Lib.hid hT
  have HUe:=Lib.hid hU
  clear hgr hok hG hT hU hU'
  by_cases hU0:U=0
  ·subst hU0
   have HTt:Hid (T=strB (textE e)):=Lib.hid (by rw [HTe.out];unfold showS;rw [if_pos HUe.out.symm])
   have HTz:Hid (T.size=(textE e).length):=Lib.hid (by rw [HTt.out];simp [strB,ByteArray.size])
   by_cases hlong:29998 < T.size
   ·have g1:decide ((29998:Int) < (T.size:Int))=true:=decide_eq_true (by omega)
    go_enter Tryz.func3,Tryz.ntmps3
    go_wp2_with fail
    clear hW1
    refine (HG.out w1 HB1.out).mono ?_
    rintro r w2 ⟨rfl,hb⟩
    have HB2:=Lib.hid (HB1.out.trans (hb.mono HB1.out.size))
    have HE2:=Lib.hid (HE1.out.kept (grown_below hb none) (by simp))
    clear hb e0 e1 e2 e3 e4 e5 e6
    have e0:=HE2.out.c0
    have e1:=HE2.out.c1
    have e2:=HE2.out.c2
    have e3:=HE2.out.c3
    have e4:=HE2.out.c4
    have e5:=HE2.out.c5
    have e6:=HE2.out.c6
    go_wp2_with fail
    refine (HS.out w2 HB2.out).mono ?_
    rintro r w3 ⟨rfl,hb⟩
    have HB3:=Lib.hid (HB2.out.trans (hb.mono HB2.out.size))
    have HE3:=Lib.hid (HE2.out.kept (grown_below hb none) (by simp))
    clear hb e0 e1 e2 e3 e4 e5 e6
    have e0:=HE3.out.c0
    have e1:=HE3.out.c1
    have e2:=HE3.out.c2
    have e3:=HE3.out.c3
    have e4:=HE3.out.c4
    have e5:=HE3.out.c5
    have e6:=HE3.out.c6
    go_wp2_with fail
    refine (HRC.out w3 HB3.out).mono ?_
    rintro r w4 ⟨rfl,hb⟩
    have HB4:=Lib.hid (HB3.out.trans (hb.mono HB3.out.size))
    clear hb e0 e1 e2 e3 e4 e5 e6
    go_wp2_with fail
    refine (shows_any w4 (HEn.out.below HB4.out)).mono ?_
    rintro r w5 ⟨rfl,hb⟩
    have HB5:=Lib.hid (HB4.out.trans (hb.mono HB4.out.size))
    clear hb
    go_wp2_with fail
    go_ret
    exact ⟨rfl,HB5.out⟩
   ·have g1:decide ((29998:Int) < (T.size:Int))=false:=decide_eq_false (by omega)
    have HPa:Hid (∀ w',Below w.heap.size w w'→Calls Tryz.prog 8 #[.string T] w' (ParseTo w' e)):=Lib.hid (fun w' hb=>by
     rw [HTt.out]
     refine (back_bare e w' (HEn.out.below hb).1 (HEn.out.below hb).2.1 HEv.out HUe.out.symm (by have:=HTz.out;omega)).mono ?_
     rintro r w2 (h | ⟨hf,_⟩)
     ·exact h
     ·exact hf.elim)
    have HPb:Hid (∀ w',Below w.heap.size w w'→Calls Tryz.prog 8 #[.string (⟨#[40]⟩++T++⟨#[41]⟩)] w' (ParseF (198 < hE e) w' e)):=Lib.hid (fun w' hb=>by
     rw [show (⟨#[40]⟩++T++⟨#[41]⟩:ByteArray)=strB (parT e) by rw [HTt.out];exact par_cat _]
     exact back_par e w' (HEn.out.below hb).1 (HEn.out.below hb).2.1 HEv.out HUe.out.symm (by have:=HTz.out;unfold parT;simp;omega))
    have HD:Hid (∀ w',Below w.heap.size w w'→Calls Tryz.prog 10 #[.agg #[.int .i64 k,.int .i64 n,.string s,.string t,.slice A0 n0 c0,.slice A1 n1 c1,.slice A2 n2 c2]] w' fun r w2=>r=.returned (.int .i64 (hE e))∧Below w'.heap.size w' w2):=Lib.hid (fun w' hb=>by
     have:=Depth_any chkN (Lib.hid chkN_says) _ e k n s t A0 n0 c0 A1 n1 c1 A2 n2 c2 w' (HRe.out.keep (Same.of_below hb)) HhE.out (HEn.out.below hb).2.1
     rw [msd_val HUe.out.symm] at this;exact this)
    have z1:¬ 9223372036854775807 < 1+T.size:=by omega
    have z2:¬ 9223372036854775807 < 1+T.size+1:=by omega
    have HSelf:Hid (sameE e e=true):=Lib.hid (sameE_self e HEv.out)
    clear hlong
    go_enter Tryz.func3,Tryz.ntmps3
    go_wp2_with fail
    clear hW1
    refine (HG.out w1 HB1.out).mono ?_
    rintro r w2 ⟨rfl,hb⟩
    have HB2:=Lib.hid (HB1.out.trans (hb.mono HB1.out.size))
    have HE2:=Lib.hid (HE1.out.kept (grown_below hb none) (by simp))
    clear hb e0 e1 e2 e3 e4 e5 e6
    have e0:=HE2.out.c0
    have e1:=HE2.out.c1
    have e2:=HE2.out.c2
    have e3:=HE2.out.c3
    have e4:=HE2.out.c4
    have e5:=HE2.out.c5
    have e6:=HE2.out.c6
    go_wp2_with fail
    refine (HS.out w2 HB2.out).mono ?_
    rintro r w3 ⟨rfl,hb⟩
    have HB3:=Lib.hid (HB2.out.trans (hb.mono HB2.out.size))
    have HE3:=Lib.hid (HE2.out.kept (grown_below hb none) (by simp))
    clear hb e0 e1 e2 e3 e4 e5 e6
    have e0:=HE3.out.c0
    have e1:=HE3.out.c1
    have e2:=HE3.out.c2
    have e3:=HE3.out.c3
    have e4:=HE3.out.c4
    have e5:=HE3.out.c5
    have e6:=HE3.out.c6
    go_wp2_with fail
    refine (HRC.out w3 HB3.out).mono ?_
    rintro r w4 ⟨rfl,hb⟩
    have HB4:=Lib.hid (HB3.out.trans (hb.mono HB3.out.size))
    have HE4:=Lib.hid (HE3.out.kept (grown_below hb none) (by simp))
    clear hb e0 e1 e2 e3 e4 e5 e6
    go_wp2_with fail
    refine (HPa.out w4 HB4.out).mono ?_
    rintro r w5 ⟨k2,m2,s2,t2,B0,p0,q0,B1,p1,q1,B2,p2,q2,rfl,hr,hb⟩
    have HB5:=Lib.hid (HB4.out.trans (hb.mono HB4.out.size))
    have HE5:=Lib.hid (HE4.out.kept (grown_below hb none) (by simp))
    have HR5:=Lib.hid hr
    have hz5:w.heap.size < w5.heap.size:=HE5.out.lt
    have e0:=HE5.out.c0
    have e1:=HE5.out.c1
    have e2:=HE5.out.c2
    have e3:=HE5.out.c3
    have e4:=HE5.out.c4
    have e5:=HE5.out.c5
    have e6:=HE5.out.c6
    clear hb hr
    have HB6:Hid (Below w.heap.size w (w5.alloc (.cells #[.int .i64 k2,.int .i64 m2,.string s2,.string t2,.slice B0 p0 q0,.slice B1 p1 q1,.slice B2 p2 q2] 27))):=Lib.hid (HB5.out.alloc HB5.out.size _)
    have HSm:Hid (Calls Tryz.prog 9 #[.agg #[.int .i64 k2,.int .i64 m2,.string s2,.string t2,.slice B0 p0 q0,.slice B1 p1 q1,.slice B2 p2 q2],.agg #[.int .i64 k,.int .i64 n,.string s,.string t,.slice A0 n0 c0,.slice A1 n1 c1,.slice A2 n2 c2]] (w5.alloc (.cells #[.int .i64 k2,.int .i64 m2,.string s2,.string t2,.slice B0 p0 q0,.slice B1 p1 q1,.slice B2 p2 q2] 27)) fun r w'=>r=.returned (.bool true)∧Below (w5.alloc (.cells #[.int .i64 k2,.int .i64 m2,.string s2,.string t2,.slice B0 p0 q0,.slice B1 p1 q1,.slice B2 p2 q2] 27)).heap.size (w5.alloc (.cells #[.int .i64 k2,.int .i64 m2,.string s2,.string t2,.slice B0 p0 q0,.slice B1 p1 q1,.slice B2 p2 q2] 27)) w'):=Lib.hid (by
     have:=rSame_any e e _ _ (w5.alloc (.cells #[.int .i64 k2,.int .i64 m2,.string s2,.string t2,.slice B0 p0 q0,.slice B1 p1 q1,.slice B2 p2 q2] 27)) ((HR5.out.keep (Same.of_grown (World.grownBy_alloc w5 _ none) (fun _ _=>by simp))).weaken (fun _ _=>trivial)) (HRe.out.keep (Same.of_below HB6.out))
     rw [HSelf.out] at this
     exact this)
    go_wp2_with fail
    refine HSm.out.mono ?_
    rintro r w7 ⟨rfl,hb⟩
    have HB7:=Lib.hid (HB6.out.trans (hb.mono HB6.out.size))
    have HE7:=Lib.hid ((HE5.out.kept (World.grownBy_alloc w5 _ none) (by simp)).kept (grown_below hb none) (by simp))
    clear hb e0 e1 e2 e3 e4 e5 e6 hz5
    go_wp2_with fail
    refine (HPb.out w7 HB7.out).mono ?_
    rintro r w8 (⟨k3,m3,s3,t3,C0,u0,v0,C1,u1,v1,C2,u2,v2,rfl,hr,hb⟩ | ⟨hF,pos,rfl,hb⟩)
    ·have HB8:=Lib.hid (HB7.out.trans (hb.mono HB7.out.size))
     have HE8:=Lib.hid (HE7.out.kept (grown_below hb none) (by simp))
     have HR8:=Lib.hid hr
     have hz8:w.heap.size < w8.heap.size:=HE8.out.lt
     have e0:=HE8.out.c0
     have e1:=HE8.out.c1
     have e2:=HE8.out.c2
     have e3:=HE8.out.c3
     have e4:=HE8.out.c4
     have e5:=HE8.out.c5
     have e6:=HE8.out.c6
     have HB9:Hid (Below w.heap.size w (w8.alloc (.cells #[.int .i64 k3,.int .i64 m3,.string s3,.string t3,.slice C0 u0 v0,.slice C1 u1 v1,.slice C2 u2 v2] 27))):=Lib.hid (HB8.out.alloc HB8.out.size _)
     have HSm9:Hid (Calls Tryz.prog 9 #[.agg #[.int .i64 k3,.int .i64 m3,.string s3,.string t3,.slice C0 u0 v0,.slice C1 u1 v1,.slice C2 u2 v2],.agg #[.int .i64 k,.int .i64 n,.string s,.string t,.slice A0 n0 c0,.slice A1 n1 c1,.slice A2 n2 c2]] (w8.alloc (.cells #[.int .i64 k3,.int .i64 m3,.string s3,.string t3,.slice C0 u0 v0,.slice C1 u1 v1,.slice C2 u2 v2] 27)) fun r w'=>r=.returned (.bool true)∧Below (w8.alloc (.cells #[.int .i64 k3,.int .i64 m3,.string s3,.string t3,.slice C0 u0 v0,.slice C1 u1 v1,.slice C2 u2 v2] 27)).heap.size (w8.alloc (.cells #[.int .i64 k3,.int .i64 m3,.string s3,.string t3,.slice C0 u0 v0,.slice C1 u1 v1,.slice C2 u2 v2] 27)) w'):=Lib.hid (by
      have:=rSame_any e e _ _ (w8.alloc (.cells #[.int .i64 k3,.int .i64 m3,.string s3,.string t3,.slice C0 u0 v0,.slice C1 u1 v1,.slice C2 u2 v2] 27)) ((HR8.out.keep (Same.of_grown (World.grownBy_alloc w8 _ none) (fun _ _=>by simp))).weaken (fun _ _=>trivial)) (HRe.out.keep (Same.of_below HB9.out))
      rw [HSelf.out] at this
      exact this)
     clear hb hr
     go_wp2_with fail
     refine HSm9.out.mono ?_
     rintro r w10 ⟨rfl,hb⟩
     have HB10:=Lib.hid (HB9.out.trans (hb.mono HB9.out.size))
     clear hb e0 e1 e2 e3 e4 e5 e6 hz8
     go_wp2_with fail
     refine (shows_any w10 (HEn.out.below HB10.out)).mono ?_
     rintro r w11 ⟨rfl,hb⟩
     have HB11:=Lib.hid (HB10.out.trans (hb.mono HB10.out.size))
     clear hb
     go_wp2_with fail
     go_ret
     exact ⟨rfl,HB11.out⟩
    ·have HB8:=Lib.hid (HB7.out.trans (hb.mono HB7.out.size))
     have HE8:=Lib.hid (HE7.out.kept (grown_below hb none) (by simp))
     have hz8:w.heap.size < w8.heap.size:=HE8.out.lt
     have e0:=HE8.out.c0
     have e1:=HE8.out.c1
     have e2:=HE8.out.c2
     have e3:=HE8.out.c3
     have e4:=HE8.out.c4
     have e5:=HE8.out.c5
     have e6:=HE8.out.c6
     have HB9:Hid (Below w.heap.size w (w8.alloc (.cells #[.int .i64 0,.int .i64 0,.string ⟨#[]⟩,.string ⟨#[]⟩,.slice none 0 0,.slice none 0 0,.slice none 0 0] 27))):=Lib.hid (HB8.out.alloc HB8.out.size _)
     have g2:decide ((198:Int) < (hE e:Int))=true:=decide_eq_true (by omega)
     have HD9:=Lib.hid (HD.out _ HB9.out)
     clear hb hF
     go_wp2_with fail
     refine HD9.out.mono ?_
     rintro r w10 ⟨rfl,hb⟩
     have HB10:=Lib.hid (HB9.out.trans (hb.mono HB9.out.size))
     clear hb e0 e1 e2 e3 e4 e5 e6 hz8
     go_wp2_with fail
     refine (shows_any w10 (HEn.out.below HB10.out)).mono ?_
     rintro r w11 ⟨rfl,hb⟩
     have HB11:=Lib.hid (HB10.out.trans (hb.mono HB10.out.size))
     clear hb
     go_wp2_with fail
     go_ret
     exact ⟨rfl,HB11.out⟩
  ·have HPk:Hid (T=⟨#[]⟩):=Lib.hid (by
    rw [HTe.out]
    unfold showS
    rw [if_neg (by rw [← HUe.out];exact hU0)]
    rfl)
   have hT0:=HPk.out
   subst hT0
   have g1:(U != 0)=true:=by simpa using hU0
   have g2:(U == U)=true:=by simp
   go_enter Tryz.func3,Tryz.ntmps3
   go_wp2_with fail
   clear hW1
   refine (HG.out w1 HB1.out).mono ?_
   rintro r w2 ⟨rfl,hb⟩
   have HB2:=Lib.hid (HB1.out.trans (hb.mono HB1.out.size))
   have HE2:=Lib.hid (HE1.out.kept (grown_below hb none) (by simp))
   clear hb e0 e1 e2 e3 e4 e5 e6
   have e0:=HE2.out.c0
   have e1:=HE2.out.c1
   have e2:=HE2.out.c2
   have e3:=HE2.out.c3
   have e4:=HE2.out.c4
   have e5:=HE2.out.c5
   have e6:=HE2.out.c6
   go_wp2_with fail
   refine (HS.out w2 HB2.out).mono ?_
   rintro r w3 ⟨rfl,hb⟩
   have HB3:=Lib.hid (HB2.out.trans (hb.mono HB2.out.size))
   have HE3:=Lib.hid (HE2.out.kept (grown_below hb none) (by simp))
   clear hb e0 e1 e2 e3 e4 e5 e6
   have e0:=HE3.out.c0
   have e1:=HE3.out.c1
   have e2:=HE3.out.c2
   have e3:=HE3.out.c3
   have e4:=HE3.out.c4
   have e5:=HE3.out.c5
   have e6:=HE3.out.c6
   go_wp2_with fail
   refine (HRC.out w3 HB3.out).mono ?_
   rintro r w4 ⟨rfl,hb⟩
   have HB4:=Lib.hid (HB3.out.trans (hb.mono HB3.out.size))
   clear hb e0 e1 e2 e3 e4 e5 e6
   go_wp2_with fail
   refine (shows_any w4 (HEn.out.below HB4.out)).mono ?_
   rintro r w5 ⟨rfl,hb⟩
   have HB5:=Lib.hid (HB4.out.trans (hb.mono HB4.out.size))
   clear hb
   go_wp2_with fail
   go_ret
   exact ⟨rfl,HB5.out⟩
end Go.Proofs.YtpjabnemkmdobaaGreatDoor
