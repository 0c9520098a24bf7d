/- Texts put together by program: PrM PrN PrO PrP PrQ PrR PrS ChkF ChkG RangeX ParsP ParsX ParsY ParsR. -/
import Derived.Test.YtpjabnemkmdobaaGreatDoorMgC
import Derived.Test.YtpjabnemkmdobaaGreatDoorMgA
import Derived.Deep.RegionHeld3
import Derived.Defers
import Derived.Recover
namespace Go.Proofs.YtpjabnemkmdobaaGreatDoor
open Go.RowKit
set_option maxRecDepth 100000 in
set_option maxHeartbeats 4000000 in
theorem rule_do (n:Int)(s t:Txt)(ns:List Txt)(l:List Ex)(ops:List (Txt × List Txt))(bs2:List Ex)(hS:∀ e∈l,ExprSays e)(hln:1≤l.length):RuleSays (.mk 12 n s t ns l ops bs2):=by
 intro B p x m lim bs cs w hP hre hlen
 have HRE:=Lib.hid hre
 obtain ⟨An,cn,Al,cl,Aa,ca,rfl,hf,hn,hl,ha,ho⟩:=hre
 show Calls Tryz.prog 38 #[.agg #[.int .i64 12,.int .i64 n,.string (strB s),.string (strB t),.slice An ns.length cn,.slice Al l.length cl,.slice Aa bs2.length ca],.pointer (some ⟨x,0,none⟩)] w _
 obtain ⟨W1,hW1⟩:∃ W1,w.alloc (.cells #[.int .i64 12,.int .i64 n,.string (strB s),.string (strB t),.slice An ns.length cn,.slice Al l.length cl,.slice Aa bs2.length ca] 27)=W1:=⟨_,rfl⟩
 have HF1:Hid (PrF B p x m lim bs w W1):=Lib.hid (by rw [← hW1];exact (PrF.refl hP).below ((Below.refl _ _).alloc (Nat.le_refl _) _))
 have HE1:Hid (EB W1 w.heap.size (.int .i64 12) (.int .i64 n) (.string (strB s)) (.string (strB t)) (.slice An ns.length cn) (.slice Al l.length cl) (.slice Aa bs2.length ca)):=Lib.hid (by rw [← hW1];exact EB.new w _ _ _ _ _ _ _)
 have e0:=HE1.out.c0
 have e1:=HE1.out.c1
 have e2:=HE1.out.c2
 have e3:=HE1.out.c3
 have e4:=HE1.out.c4
 have e5:=HE1.out.c5
 have e6:=HE1.out.c6
 have hx1:=HF1.out.1.cx
 have hgp:w.heap.size≠p:=by have:=hP.ltp;omega
 obtain ⟨x0,hx0⟩:∃ e,l[0]?=some e:=⟨_,List.getElem?_eq_getElem (by omega)⟩
 have hpcs:pcs (.mk 12 n s t ns l ops bs2)=callP [[100,111,32],s] x0.lp:=by rw [pcs_mk,← nth_lp hx0];rfl
 rw [hpcs] at hlen
 obtain ⟨psx,hpsx⟩:∃ q,q=pcs (.mk 12 n s t ns l ops bs2):=⟨_,rfl⟩
 have HQ:Hid (psx=callP [[100,111,32],s] x0.lp):=Lib.hid (by rw [hpsx,hpcs])
 rw [← hpsx]
 have HPa:=Lib.hid (parts_of hl)
 obtain ⟨b,off,rfl⟩:=HPa.out.addr (by omega)
 obtain ⟨⟨hb1,hb2⟩,k0,n0,s0,t0,B0,q0,r0,B1,q1,r1,B2,q2,r2,hc⟩:=(HPa.out.fr HF1.out.2).at hx0
 have HA:Hid (PrF B p x m lim bs w (W1.drew.alloc (.cells ([[100,111,32],s].map fun s=>Value.string (strB s)).toArray 9))):=Lib.hid (HF1.out.drew.below ((Below.refl _ _).alloc (Nat.le_refl _) _))
 have HX:=Lib.hid (call_any B p x m lim bs k0 n0 s0 t0 B0 q0 r0 B1 q1 r1 B2 q2 r2 W1.drew.heap.size x0 [[100,111,32],s] (W1.drew.alloc (.cells ([[100,111,32],s].map fun s=>Value.string (strB s)).toArray 9)) HA.out.1 (hS x0 (List.mem_of_getElem? hx0)) (hc.rep.keep (Same.trans (FrP.drew (FrP.refl B p W1)).same (Same.of_grown (World.grownBy_alloc W1.drew _ none) (fun _ _=>by simp)))) (heap_alloc_new W1.drew _) (by simp) hlen)
 have i0:(0:Int) < (l.length:Int):=by omega
 have d0:=hc.d0
 have d1:=hc.d1
 have d2:=hc.d2
 have d3:=hc.d3
 have d4:=hc.d4
 have d5:=hc.d5
 have d6:=hc.d6
 simp only [Nat.zero_mul,Nat.add_zero] at d0 d1 d2 d3 d4 d5 d6
 have i0n:0 < l.length:=by omega
 obtain ⟨ml,hml⟩:∃ q,q=l.length:=⟨_,rfl⟩
 rw [← hml] at HE1 hW1 e5 i0 i0n ⊢
 clear hf hn hl ha ho hpcs hpsx hS hln hlen hP hc hx0 hml
 go_enter Tryz.func38,Tryz.ntmps38
 go_wp2_with fail
 clear hW1
 have hX:OpS B p x m lim w W1 w.heap.size (.int .i64 12) (.int .i64 n) (.string (strB s)) (.string (strB t)) (.slice An ns.length cn) (.slice (some ⟨b,off,none⟩) ml cl) (.slice Aa bs2.length ca) W1:=OpS.mk HF1.out HE1.out
 go_region_held3 (fun w'=>w'.cell? ⟨b,off,none⟩=some (.int .i64 k0)∧w'.cell? ⟨b,off+1,none⟩=some (.int .i64 n0)∧w'.cell? ⟨b,off+2,none⟩=some (.string s0)∧w'.cell? ⟨b,off+3,none⟩=some (.string t0)∧w'.cell? ⟨b,off+4,none⟩=some (.slice B0 q0 r0)∧w'.cell? ⟨b,off+5,none⟩=some (.slice B1 q1 r1)∧w'.cell? ⟨b,off+6,none⟩=some (.slice B2 q2 r2)∧w'.cell? ⟨x,0,none⟩=some (.pointer (some ⟨p,0,none⟩))∧w'.cell? ⟨w.heap.size,0,none⟩=some (.int .i64 12)∧w'.cell? ⟨w.heap.size,1,none⟩=some (.int .i64 n)∧w'.cell? ⟨w.heap.size,2,none⟩=some (.string (strB s))∧w'.cell? ⟨w.heap.size,3,none⟩=some (.string (strB t))∧w'.cell? ⟨w.heap.size,4,none⟩=some (.slice An ns.length cn)∧w'.cell? ⟨w.heap.size,5,none⟩=some (.slice (some ⟨b,off,none⟩) ml cl)∧w'.cell? ⟨w.heap.size,6,none⟩=some (.slice Aa bs2.length ca)∧OpS B p x m lim w W1 w.heap.size (.int .i64 12) (.int .i64 n) (.string (strB s)) (.string (strB t)) (.slice An ns.length cn) (.slice (some ⟨b,off,none⟩) ml cl) (.slice Aa bs2.length ca) w')
  ((refine OpS.all7 hb2 hb1 d0 d1 d2 d3 d4 d5 d6 ?_;first | assumption | exact hX.drew | exact hX.drew.alloc _ | exact OpS.call (hX.drew.alloc _) hgp (by assumption)))
  (first | (go_at_call 39;refine HX.out.mono ?_;rintro e w' ⟨rfl,hpf⟩))
 rename_i hh
 have HR:=Lib.hid (HA.out.then hpf)
 clear hh hpf hX d0 d1 d2 d3 d4 d5 d6 HX hb1 hb2 e0 e1 e2 e3 e4 e5 e6
 go_wp2_with fail
 go_end0
 exact ⟨rfl,by rw [HQ.out];exact HR.out⟩
set_option maxRecDepth 100000 in
set_option maxHeartbeats 4000000 in
theorem rule_at (n:Int)(s t:Txt)(ns:List Txt)(l:List Ex)(ops:List (Txt × List Txt))(bs2:List Ex)(hS:∀ e∈l,ExprSays e)(hln:1≤l.length):RuleSays (.mk 13 n s t ns l ops bs2):=by
 intro B p x m lim bs cs w hP hre hlen
 have HRE:=Lib.hid hre
 obtain ⟨An,cn,Al,cl,Aa,ca,rfl,hf,hn,hl,ha,ho⟩:=hre
 show Calls Tryz.prog 40 #[.agg #[.int .i64 13,.int .i64 n,.string (strB s),.string (strB t),.slice An ns.length cn,.slice Al l.length cl,.slice Aa bs2.length ca],.pointer (some ⟨x,0,none⟩)] w _
 obtain ⟨W1,hW1⟩:∃ W1,w.alloc (.cells #[.int .i64 13,.int .i64 n,.string (strB s),.string (strB t),.slice An ns.length cn,.slice Al l.length cl,.slice Aa bs2.length ca] 27)=W1:=⟨_,rfl⟩
 have HF1:Hid (PrF B p x m lim bs w W1):=Lib.hid (by rw [← hW1];exact (PrF.refl hP).below ((Below.refl _ _).alloc (Nat.le_refl _) _))
 have HE1:Hid (EB W1 w.heap.size (.int .i64 13) (.int .i64 n) (.string (strB s)) (.string (strB t)) (.slice An ns.length cn) (.slice Al l.length cl) (.slice Aa bs2.length ca)):=Lib.hid (by rw [← hW1];exact EB.new w _ _ _ _ _ _ _)
 have e0:=HE1.out.c0
 have e1:=HE1.out.c1
 have e2:=HE1.out.c2
 have e3:=HE1.out.c3
 have e4:=HE1.out.c4
 have e5:=HE1.out.c5
 have e6:=HE1.out.c6
 have hx1:=HF1.out.1.cx
 have hgp:w.heap.size≠p:=by have:=hP.ltp;omega
 obtain ⟨x0,hx0⟩:∃ e,l[0]?=some e:=⟨_,List.getElem?_eq_getElem (by omega)⟩
 have hpcs:pcs (.mk 13 n s t ns l ops bs2)=callP [s,[46],t] x0.lp:=by rw [pcs_mk,← nth_lp hx0];rfl
 rw [hpcs] at hlen
 obtain ⟨psx,hpsx⟩:∃ q,q=pcs (.mk 13 n s t ns l ops bs2):=⟨_,rfl⟩
 have HQ:Hid (psx=callP [s,[46],t] x0.lp):=Lib.hid (by rw [hpsx,hpcs])
 rw [← hpsx]
 have HPa:=Lib.hid (parts_of hl)
 obtain ⟨b,off,rfl⟩:=HPa.out.addr (by omega)
 obtain ⟨⟨hb1,hb2⟩,k0,n0,s0,t0,B0,q0,r0,B1,q1,r1,B2,q2,r2,hc⟩:=(HPa.out.fr HF1.out.2).at hx0
 have HA:Hid (PrF B p x m lim bs w (W1.drew.alloc (.cells ([s,[46],t].map fun s=>Value.string (strB s)).toArray 9))):=Lib.hid (HF1.out.drew.below ((Below.refl _ _).alloc (Nat.le_refl _) _))
 have HX:=Lib.hid (call_any B p x m lim bs k0 n0 s0 t0 B0 q0 r0 B1 q1 r1 B2 q2 r2 W1.drew.heap.size x0 [s,[46],t] (W1.drew.alloc (.cells ([s,[46],t].map fun s=>Value.string (strB s)).toArray 9)) HA.out.1 (hS x0 (List.mem_of_getElem? hx0)) (hc.rep.keep (Same.trans (FrP.drew (FrP.refl B p W1)).same (Same.of_grown (World.grownBy_alloc W1.drew _ none) (fun _ _=>by simp)))) (heap_alloc_new W1.drew _) (by simp) hlen)
 have i0:(0:Int) < (l.length:Int):=by omega
 have d0:=hc.d0
 have d1:=hc.d1
 have d2:=hc.d2
 have d3:=hc.d3
 have d4:=hc.d4
 have d5:=hc.d5
 have d6:=hc.d6
 simp only [Nat.zero_mul,Nat.add_zero] at d0 d1 d2 d3 d4 d5 d6
 have i0n:0 < l.length:=by omega
 obtain ⟨ml,hml⟩:∃ q,q=l.length:=⟨_,rfl⟩
 rw [← hml] at HE1 hW1 e5 i0 i0n ⊢
 clear hf hn hl ha ho hpcs hpsx hS hln hlen hP hc hx0 hml
 go_enter Tryz.func40,Tryz.ntmps40
 go_wp2_with fail
 clear hW1
 have hX:OpS B p x m lim w W1 w.heap.size (.int .i64 13) (.int .i64 n) (.string (strB s)) (.string (strB t)) (.slice An ns.length cn) (.slice (some ⟨b,off,none⟩) ml cl) (.slice Aa bs2.length ca) W1:=OpS.mk HF1.out HE1.out
 go_region_held3 (fun w'=>w'.cell? ⟨b,off,none⟩=some (.int .i64 k0)∧w'.cell? ⟨b,off+1,none⟩=some (.int .i64 n0)∧w'.cell? ⟨b,off+2,none⟩=some (.string s0)∧w'.cell? ⟨b,off+3,none⟩=some (.string t0)∧w'.cell? ⟨b,off+4,none⟩=some (.slice B0 q0 r0)∧w'.cell? ⟨b,off+5,none⟩=some (.slice B1 q1 r1)∧w'.cell? ⟨b,off+6,none⟩=some (.slice B2 q2 r2)∧w'.cell? ⟨x,0,none⟩=some (.pointer (some ⟨p,0,none⟩))∧w'.cell? ⟨w.heap.size,0,none⟩=some (.int .i64 13)∧w'.cell? ⟨w.heap.size,1,none⟩=some (.int .i64 n)∧w'.cell? ⟨w.heap.size,2,none⟩=some (.string (strB s))∧w'.cell? ⟨w.heap.size,3,none⟩=some (.string (strB t))∧w'.cell? ⟨w.heap.size,4,none⟩=some (.slice An ns.length cn)∧w'.cell? ⟨w.heap.size,5,none⟩=some (.slice (some ⟨b,off,none⟩) ml cl)∧w'.cell? ⟨w.heap.size,6,none⟩=some (.slice Aa bs2.length ca)∧OpS B p x m lim w W1 w.heap.size (.int .i64 13) (.int .i64 n) (.string (strB s)) (.string (strB t)) (.slice An ns.length cn) (.slice (some ⟨b,off,none⟩) ml cl) (.slice Aa bs2.length ca) w')
  ((refine OpS.all7 hb2 hb1 d0 d1 d2 d3 d4 d5 d6 ?_;first | assumption | exact hX.drew | exact hX.drew.alloc _ | exact OpS.call (hX.drew.alloc _) hgp (by assumption)))
  (first | (go_at_call 39;refine HX.out.mono ?_;rintro e w' ⟨rfl,hpf⟩))
 rename_i hh
 have HR:=Lib.hid (HA.out.then hpf)
 clear hh hpf hX d0 d1 d2 d3 d4 d5 d6 HX hb1 hb2 e0 e1 e2 e3 e4 e5 e6
 go_wp2_with fail
 go_end0
 exact ⟨rfl,by rw [HQ.out];exact HR.out⟩
set_option maxRecDepth 100000 in
set_option maxHeartbeats 4000000 in
theorem rule_mask (n:Int)(s t:Txt)(ns:List Txt)(l:List Ex)(ops:List (Txt × List Txt))(bs2:List Ex)(hS:∀ e∈l,ExprSays e)(hln:1≤l.length):RuleSays (.mk 16 n s t ns l ops bs2):=by
 intro B p x m lim bs cs w hP hre hlen
 have HRE:=Lib.hid hre
 obtain ⟨An,cn,Al,cl,Aa,ca,rfl,hf,hn,hl,ha,ho⟩:=hre
 show Calls Tryz.prog 41 #[.agg #[.int .i64 16,.int .i64 n,.string (strB s),.string (strB t),.slice An ns.length cn,.slice Al l.length cl,.slice Aa bs2.length ca],.pointer (some ⟨x,0,none⟩)] w _
 obtain ⟨W1,hW1⟩:∃ W1,w.alloc (.cells #[.int .i64 16,.int .i64 n,.string (strB s),.string (strB t),.slice An ns.length cn,.slice Al l.length cl,.slice Aa bs2.length ca] 27)=W1:=⟨_,rfl⟩
 have HF1:Hid (PrF B p x m lim bs w W1):=Lib.hid (by rw [← hW1];exact (PrF.refl hP).below ((Below.refl _ _).alloc (Nat.le_refl _) _))
 have HE1:Hid (EB W1 w.heap.size (.int .i64 16) (.int .i64 n) (.string (strB s)) (.string (strB t)) (.slice An ns.length cn) (.slice Al l.length cl) (.slice Aa bs2.length ca)):=Lib.hid (by rw [← hW1];exact EB.new w _ _ _ _ _ _ _)
 have e0:=HE1.out.c0
 have e1:=HE1.out.c1
 have e2:=HE1.out.c2
 have e3:=HE1.out.c3
 have e4:=HE1.out.c4
 have e5:=HE1.out.c5
 have e6:=HE1.out.c6
 have hx1:=HF1.out.1.cx
 have hgp:w.heap.size≠p:=by have:=hP.ltp;omega
 obtain ⟨x0,hx0⟩:∃ e,l[0]?=some e:=⟨_,List.getElem?_eq_getElem (by omega)⟩
 have hpcs:pcs (.mk 16 n s t ns l ops bs2)=callP [[109,97,115,107,32],s] x0.lp:=by rw [pcs_mk,← nth_lp hx0];rfl
 rw [hpcs] at hlen
 obtain ⟨psx,hpsx⟩:∃ q,q=pcs (.mk 16 n s t ns l ops bs2):=⟨_,rfl⟩
 have HQ:Hid (psx=callP [[109,97,115,107,32],s] x0.lp):=Lib.hid (by rw [hpsx,hpcs])
 rw [← hpsx]
 have HPa:=Lib.hid (parts_of hl)
 obtain ⟨b,off,rfl⟩:=HPa.out.addr (by omega)
 obtain ⟨⟨hb1,hb2⟩,k0,n0,s0,t0,B0,q0,r0,B1,q1,r1,B2,q2,r2,hc⟩:=(HPa.out.fr HF1.out.2).at hx0
 have HA:Hid (PrF B p x m lim bs w (W1.drew.alloc (.cells ([[109,97,115,107,32],s].map fun s=>Value.string (strB s)).toArray 9))):=Lib.hid (HF1.out.drew.below ((Below.refl _ _).alloc (Nat.le_refl _) _))
 have HX:=Lib.hid (call_any B p x m lim bs k0 n0 s0 t0 B0 q0 r0 B1 q1 r1 B2 q2 r2 W1.drew.heap.size x0 [[109,97,115,107,32],s] (W1.drew.alloc (.cells ([[109,97,115,107,32],s].map fun s=>Value.string (strB s)).toArray 9)) HA.out.1 (hS x0 (List.mem_of_getElem? hx0)) (hc.rep.keep (Same.trans (FrP.drew (FrP.refl B p W1)).same (Same.of_grown (World.grownBy_alloc W1.drew _ none) (fun _ _=>by simp)))) (heap_alloc_new W1.drew _) (by simp) hlen)
 have i0:(0:Int) < (l.length:Int):=by omega
 have d0:=hc.d0
 have d1:=hc.d1
 have d2:=hc.d2
 have d3:=hc.d3
 have d4:=hc.d4
 have d5:=hc.d5
 have d6:=hc.d6
 simp only [Nat.zero_mul,Nat.add_zero] at d0 d1 d2 d3 d4 d5 d6
 have i0n:0 < l.length:=by omega
 obtain ⟨ml,hml⟩:∃ q,q=l.length:=⟨_,rfl⟩
 rw [← hml] at HE1 hW1 e5 i0 i0n ⊢
 clear hf hn hl ha ho hpcs hpsx hS hln hlen hP hc hx0 hml
 go_enter Tryz.func41,Tryz.ntmps41
 go_wp2_with fail
 clear hW1
 have hX:OpS B p x m lim w W1 w.heap.size (.int .i64 16) (.int .i64 n) (.string (strB s)) (.string (strB t)) (.slice An ns.length cn) (.slice (some ⟨b,off,none⟩) ml cl) (.slice Aa bs2.length ca) W1:=OpS.mk HF1.out HE1.out
 go_region_held3 (fun w'=>w'.cell? ⟨b,off,none⟩=some (.int .i64 k0)∧w'.cell? ⟨b,off+1,none⟩=some (.int .i64 n0)∧w'.cell? ⟨b,off+2,none⟩=some (.string s0)∧w'.cell? ⟨b,off+3,none⟩=some (.string t0)∧w'.cell? ⟨b,off+4,none⟩=some (.slice B0 q0 r0)∧w'.cell? ⟨b,off+5,none⟩=some (.slice B1 q1 r1)∧w'.cell? ⟨b,off+6,none⟩=some (.slice B2 q2 r2)∧w'.cell? ⟨x,0,none⟩=some (.pointer (some ⟨p,0,none⟩))∧w'.cell? ⟨w.heap.size,0,none⟩=some (.int .i64 16)∧w'.cell? ⟨w.heap.size,1,none⟩=some (.int .i64 n)∧w'.cell? ⟨w.heap.size,2,none⟩=some (.string (strB s))∧w'.cell? ⟨w.heap.size,3,none⟩=some (.string (strB t))∧w'.cell? ⟨w.heap.size,4,none⟩=some (.slice An ns.length cn)∧w'.cell? ⟨w.heap.size,5,none⟩=some (.slice (some ⟨b,off,none⟩) ml cl)∧w'.cell? ⟨w.heap.size,6,none⟩=some (.slice Aa bs2.length ca)∧OpS B p x m lim w W1 w.heap.size (.int .i64 16) (.int .i64 n) (.string (strB s)) (.string (strB t)) (.slice An ns.length cn) (.slice (some ⟨b,off,none⟩) ml cl) (.slice Aa bs2.length ca) w')
  ((refine OpS.all7 hb2 hb1 d0 d1 d2 d3 d4 d5 d6 ?_;first | assumption | exact hX.drew | exact hX.drew.alloc _ | exact OpS.call (hX.drew.alloc _) hgp (by assumption)))
  (first | (go_at_call 39;refine HX.out.mono ?_;rintro e w' ⟨rfl,hpf⟩))
 rename_i hh
 have HR:=Lib.hid (HA.out.then hpf)
 clear hh hpf hX d0 d1 d2 d3 d4 d5 d6 HX hb1 hb2 e0 e1 e2 e3 e4 e5 e6
 go_wp2_with fail
 go_end0
 exact ⟨rfl,by rw [HQ.out];exact HR.out⟩
set_option maxRecDepth 100000 in
set_option maxHeartbeats 4000000 in
theorem rule_resume (n:Int)(s t:Txt)(ns:List Txt)(l:List Ex)(ops:List (Txt × List Txt))(bs2:List Ex)(hS:∀ e∈l,ExprSays e)(hln:1≤l.length):RuleSays (.mk 18 n s t ns l ops bs2):=by
 intro B p x m lim bs cs w hP hre hlen
 have HRE:=Lib.hid hre
 obtain ⟨An,cn,Al,cl,Aa,ca,rfl,hf,hn,hl,ha,ho⟩:=hre
 show Calls Tryz.prog 42 #[.agg #[.int .i64 18,.int .i64 n,.string (strB s),.string (strB t),.slice An ns.length cn,.slice Al l.length cl,.slice Aa bs2.length ca],.pointer (some ⟨x,0,none⟩)] w _
 obtain ⟨W1,hW1⟩:∃ W1,w.alloc (.cells #[.int .i64 18,.int .i64 n,.string (strB s),.string (strB t),.slice An ns.length cn,.slice Al l.length cl,.slice Aa bs2.length ca] 27)=W1:=⟨_,rfl⟩
 have HF1:Hid (PrF B p x m lim bs w W1):=Lib.hid (by rw [← hW1];exact (PrF.refl hP).below ((Below.refl _ _).alloc (Nat.le_refl _) _))
 have HE1:Hid (EB W1 w.heap.size (.int .i64 18) (.int .i64 n) (.string (strB s)) (.string (strB t)) (.slice An ns.length cn) (.slice Al l.length cl) (.slice Aa bs2.length ca)):=Lib.hid (by rw [← hW1];exact EB.new w _ _ _ _ _ _ _)
 have e0:=HE1.out.c0
 have e1:=HE1.out.c1
 have e2:=HE1.out.c2
 have e3:=HE1.out.c3
 have e4:=HE1.out.c4
 have e5:=HE1.out.c5
 have e6:=HE1.out.c6
 have hx1:=HF1.out.1.cx
 have hgp:w.heap.size≠p:=by have:=hP.ltp;omega
 obtain ⟨x0,hx0⟩:∃ e,l[0]?=some e:=⟨_,List.getElem?_eq_getElem (by omega)⟩
 have hpcs:pcs (.mk 18 n s t ns l ops bs2)=callP [[114,101,115,117,109,101,32],s] x0.lp:=by rw [pcs_mk,← nth_lp hx0];rfl
 rw [hpcs] at hlen
 obtain ⟨psx,hpsx⟩:∃ q,q=pcs (.mk 18 n s t ns l ops bs2):=⟨_,rfl⟩
 have HQ:Hid (psx=callP [[114,101,115,117,109,101,32],s] x0.lp):=Lib.hid (by rw [hpsx,hpcs])
 rw [← hpsx]
 have HPa:=Lib.hid (parts_of hl)
 obtain ⟨b,off,rfl⟩:=HPa.out.addr (by omega)
 obtain ⟨⟨hb1,hb2⟩,k0,n0,s0,t0,B0,q0,r0,B1,q1,r1,B2,q2,r2,hc⟩:=(HPa.out.fr HF1.out.2).at hx0
 have HA:Hid (PrF B p x m lim bs w (W1.drew.alloc (.cells ([[114,101,115,117,109,101,32],s].map fun s=>Value.string (strB s)).toArray 9))):=Lib.hid (HF1.out.drew.below ((Below.refl _ _).alloc (Nat.le_refl _) _))
 have HX:=Lib.hid (call_any B p x m lim bs k0 n0 s0 t0 B0 q0 r0 B1 q1 r1 B2 q2 r2 W1.drew.heap.size x0 [[114,101,115,117,109,101,32],s] (W1.drew.alloc (.cells ([[114,101,115,117,109,101,32],s].map fun s=>Value.string (strB s)).toArray 9)) HA.out.1 (hS x0 (List.mem_of_getElem? hx0)) (hc.rep.keep (Same.trans (FrP.drew (FrP.refl B p W1)).same (Same.of_grown (World.grownBy_alloc W1.drew _ none) (fun _ _=>by simp)))) (heap_alloc_new W1.drew _) (by simp) hlen)
 have i0:(0:Int) < (l.length:Int):=by omega
 have d0:=hc.d0
 have d1:=hc.d1
 have d2:=hc.d2
 have d3:=hc.d3
 have d4:=hc.d4
 have d5:=hc.d5
 have d6:=hc.d6
 simp only [Nat.zero_mul,Nat.add_zero] at d0 d1 d2 d3 d4 d5 d6
 have i0n:0 < l.length:=by omega
 obtain ⟨ml,hml⟩:∃ q,q=l.length:=⟨_,rfl⟩
 rw [← hml] at HE1 hW1 e5 i0 i0n ⊢
 clear hf hn hl ha ho hpcs hpsx hS hln hlen hP hc hx0 hml
 go_enter Tryz.func42,Tryz.ntmps42
 go_wp2_with fail
 clear hW1
 have hX:OpS B p x m lim w W1 w.heap.size (.int .i64 18) (.int .i64 n) (.string (strB s)) (.string (strB t)) (.slice An ns.length cn) (.slice (some ⟨b,off,none⟩) ml cl) (.slice Aa bs2.length ca) W1:=OpS.mk HF1.out HE1.out
 go_region_held3 (fun w'=>w'.cell? ⟨b,off,none⟩=some (.int .i64 k0)∧w'.cell? ⟨b,off+1,none⟩=some (.int .i64 n0)∧w'.cell? ⟨b,off+2,none⟩=some (.string s0)∧w'.cell? ⟨b,off+3,none⟩=some (.string t0)∧w'.cell? ⟨b,off+4,none⟩=some (.slice B0 q0 r0)∧w'.cell? ⟨b,off+5,none⟩=some (.slice B1 q1 r1)∧w'.cell? ⟨b,off+6,none⟩=some (.slice B2 q2 r2)∧w'.cell? ⟨x,0,none⟩=some (.pointer (some ⟨p,0,none⟩))∧w'.cell? ⟨w.heap.size,0,none⟩=some (.int .i64 18)∧w'.cell? ⟨w.heap.size,1,none⟩=some (.int .i64 n)∧w'.cell? ⟨w.heap.size,2,none⟩=some (.string (strB s))∧w'.cell? ⟨w.heap.size,3,none⟩=some (.string (strB t))∧w'.cell? ⟨w.heap.size,4,none⟩=some (.slice An ns.length cn)∧w'.cell? ⟨w.heap.size,5,none⟩=some (.slice (some ⟨b,off,none⟩) ml cl)∧w'.cell? ⟨w.heap.size,6,none⟩=some (.slice Aa bs2.length ca)∧OpS B p x m lim w W1 w.heap.size (.int .i64 18) (.int .i64 n) (.string (strB s)) (.string (strB t)) (.slice An ns.length cn) (.slice (some ⟨b,off,none⟩) ml cl) (.slice Aa bs2.length ca) w')
  ((refine OpS.all7 hb2 hb1 d0 d1 d2 d3 d4 d5 d6 ?_;first | assumption | exact hX.drew | exact hX.drew.alloc _ | exact OpS.call (hX.drew.alloc _) hgp (by assumption)))
  (first | (go_at_call 39;refine HX.out.mono ?_;rintro e w' ⟨rfl,hpf⟩))
 rename_i hh
 have HR:=Lib.hid (HA.out.then hpf)
 clear hh hpf hX d0 d1 d2 d3 d4 d5 d6 HX hb1 hb2 e0 e1 e2 e3 e4 e5 e6
 go_wp2_with fail
 go_end0
 exact ⟨rfl,by rw [HQ.out];exact HR.out⟩
theorem listP_snoc (sep:Txt):∀ (xs:List (List Txt)) (y:List Txt),listP sep (xs++[y])=listP sep xs++(if xs=[] then y else [sep]++y)
 | [],y=>by simp [listP]
 | x :: r,y=>by simp [listP]
theorem listP_prefix (sep:Txt)(xs:List (List Txt))(k:Nat):listP sep (xs.take k) <+: listP sep xs:=by
 cases xs with
 | nil=>simp [listP]
 | cons x r =>
  cases k with
  | zero=>simp [listP]
  | succ k =>
   simp only [List.take_succ_cons,listP]
   refine (List.prefix_append_right_inj _).2 ⟨(r.drop k).flatMap fun y=>[sep]++y,?_⟩
   rw [← List.flatMap_append,List.take_append_drop]
theorem cell_blk {w:World}{q:Nat}{v:Value}{T:TypeId}(h:w.heap[q]?=some (.cells #[v] T (0,0))):w.cell? ⟨q,0,none⟩=some v:=cell_of_row w q 0 _ _ (0,0) h
set_option maxRecDepth 100000 in
set_option maxHeartbeats 2000000 in
theorem conClos_any (B p x m:Nat)(lim:Int)(bs:Txt)(q:Nat)(e:Ex)(k n:Int)(s t:ByteArray)(A0:Option Addr)(n0 c0:Nat)(A1:Option Addr)(n1 c1:Nat)(A2:Option Addr)(n2 c2:Nat)(w:World)(h:Pr B p x m lim bs w)(hS:ExprSays e)(hq:w.heap[q]?=some (.cells #[.pointer (some ⟨p,0,none⟩)] 39 (0,0)))
  (hre:RepE (fun b=>b < B) w e [.int .i64 k,.int .i64 n,.string s,.string t,.slice A0 n0 c0,.slice A1 n1 c1,.slice A2 n2 c2]) (hlen:bs.length+tot (atP 0 e.lp)≤140737488355328) :
  Calls Tryz.prog 74 #[.agg #[.int .i64 k,.int .i64 n,.string s,.string t,.slice A0 n0 c0,.slice A1 n1 c1,.slice A2 n2 c2],.pointer (some ⟨q,0,none⟩)] w fun e' w'=>e'=.returned (.tuple #[])∧PrF B p x m lim (wrs lim bs (atP 0 e.lp)) w w':=by
 obtain ⟨W1,hW1⟩:∃ W1,w.alloc (.cells #[.int .i64 k,.int .i64 n,.string s,.string t,.slice A0 n0 c0,.slice A1 n1 c1,.slice A2 n2 c2] 27)=W1:=⟨_,rfl⟩
 have HF1:Hid (PrF B p x m lim bs w W1):=Lib.hid (by rw [← hW1];exact (PrF.refl h).below ((Below.refl _ _).alloc (Nat.le_refl _) _))
 have HE1:Hid (EB W1 w.heap.size (.int .i64 k) (.int .i64 n) (.string s) (.string t) (.slice A0 n0 c0) (.slice A1 n1 c1) (.slice A2 n2 c2)):=Lib.hid (by rw [← hW1];exact EB.new w _ _ _ _ _ _ _)
 have hq1:W1.cell? ⟨q,0,none⟩=some (.pointer (some ⟨p,0,none⟩)):=by rw [← hW1];exact cell_blk ((Lib.alloc_old w _ q (Array.getElem?_eq_some_iff.1 hq).1).trans hq)
 have HX:=Lib.hid (hS B p x m lim bs 0 _ W1 HF1.out.1 (hre.keep HF1.out.2.same) hlen)
 have d0:=HE1.out.c0
 have d1:=HE1.out.c1
 have d2:=HE1.out.c2
 have d3:=HE1.out.c3
 have d4:=HE1.out.c4
 have d5:=HE1.out.c5
 have d6:=HE1.out.c6
 clear h hS hq hre hlen
 go_enter Tryz.func74,Tryz.ntmps74
 go_wp2_with fail
 clear hW1
 refine HX.out.mono ?_
 rintro e w4 ⟨rfl,hp4⟩
 have HP4:=Lib.hid (HF1.out.then hp4)
 clear hp4 d0 d1 d2 d3 d4 d5 d6
 go_wp2_with fail
 go_end0
 exact ⟨rfl,HP4.out⟩
def lsP (sep:Txt)(l:List Ex):List Txt:=listP sep (l.map fun e=>atP 0 e.lp)
theorem lsP_snoc (sep:Txt)(l:List Ex)(e:Ex):lsP sep (l++[e])=lsP sep l++(if l=[] then atP 0 e.lp else [sep]++atP 0 e.lp):=by
 unfold lsP
 rw [List.map_append,List.map_cons,List.map_nil,listP_snoc]
 cases l <;> simp
theorem lsP_prefix (sep:Txt)(l:List Ex)(k:Nat):lsP sep (l.take k) <+: lsP sep l:=by
 unfold lsP;rw [List.map_take];exact listP_prefix _ _ _
set_option maxRecDepth 100000 in
set_option maxHeartbeats 4000000 in
theorem listE_any (B p x m:Nat)(lim:Int)(bs:Txt)(A:Option Addr)(c q:Nat)(l:List Ex)(sep:Txt)(w:World)(h:Pr B p x m lim bs w)(hS:∀ e∈l,ExprSays e)(hP:PartsAt B w A l)(hq:w.heap[q]?=some (.cells #[.pointer (some ⟨p,0,none⟩)] 39 (0,0)))(hl:l.length≤maxLen)(hlen:bs.length+tot (lsP sep l)≤140737488355328) :
  Calls Tryz.prog 73 #[.pointer (some ⟨p,0,none⟩),.slice A l.length c,.string (strB sep),.func (.func 74) #[] #[.pointer (some ⟨q,0,none⟩)]] w fun e w'=>e=.returned (.tuple #[])∧PrF B p x m lim (wrs lim bs (lsP sep l)) w w':=by
 have HP:=Lib.hid h
 have HPa:=Lib.hid hP
 have HLn:=Lib.hid hlen
 have HS:=Lib.hid hS
 have HQ:=Lib.hid hq
 have HQp:Hid (q≠p):=Lib.hid (fun e=>by
  subst e
  obtain ⟨_,_,_,⟨a,v,_,hh,_⟩,_⟩:=h
  rw [hq] at hh
  injection hh with hh
  injection hh with hh
  exact absurd (congrArg Array.size hh) (by simp))
 obtain ⟨n,hnn⟩:∃ n,n=l.length:=⟨_,rfl⟩
 have HL:=Lib.hid hnn
 unfold maxLen at hl
 rw [← hnn] at hl ⊢
 clear h hP hlen hS hnn hq
 go_enter Tryz.func73,Tryz.ntmps73
 go_wp2_with fail
 go_loopw [12] (fun i wr=>∃ k:Nat,k≤n∧i=.int .i64 (k:Int)∧Hid (PrF B p x m lim (wrs lim bs (lsP sep (l.take k))) w wr)) (fun i _=>n - (intOf i).toNat)
 case atStart=>exact ⟨0,Nat.zero_le _,rfl,Lib.hid ⟨HP.out,FrP.refl _ _ _⟩⟩
 case round =>
  obtain ⟨k,hk,rfl,hPF⟩:=hrel
  have i0:(0:Int)≤(k:Int):=by omega
  by_cases hkl:k < n
  ·have hke:k < l.length:=by rw [← HL.out];exact hkl
   have i1:(k:Int) < (n:Int):=by omega
   obtain ⟨e,he⟩:∃ e,e=l[k]:=⟨_,rfl⟩
   have HEl:Hid (l[k]?=some e):=Lib.hid (by rw [he];exact List.getElem?_eq_getElem hke)
   have HE:=Lib.hid (HS.out e (by rw [he];exact List.getElem_mem hke))
   have HTk:Hid (lsP sep (l.take (k+1))=lsP sep (l.take k)++(if k=0 then atP 0 e.lp else [sep]++atP 0 e.lp)):=Lib.hid (by
    rw [take_succ_of hke,lsP_snoc,← he]
    congr 1
    by_cases h0:k=0
    ·subst h0;rfl
    ·rw [if_neg h0,if_neg (fun h=>h0 (by have:=congrArg List.length h;rw [List.length_take,List.length_nil] at this;omega))])
   have HB:Hid ((wrs lim bs (lsP sep (l.take k))).length+tot (if k=0 then atP 0 e.lp else [sep]++atP 0 e.lp)≤140737488355328):=Lib.hid (by
    have h1:=wrs_len lim (lsP sep (l.take k)) bs
    have h2:=tot_prefix (lsP_prefix sep l (k+1))
    rw [HTk.out,tot_append] at h2
    have:=HLn.out
    omega)
   obtain ⟨b,off,rfl⟩:=HPa.out.addr (by omega)
   obtain ⟨⟨hb1,hb2⟩,k0,n0,s0,t0,B0,q0,r0,B1,q1,r1,B2,q2,r2,hc⟩:=(HPa.out.fr hPF.out.2).at HEl.out
   obtain ⟨bs1,hbs1⟩:∃ b,b=wrs lim bs (lsP sep (l.take k)):=⟨_,rfl⟩
   have HT2:Hid (wrs lim bs (lsP sep (l.take (k+1)))=wrs lim bs1 (if k=0 then atP 0 e.lp else [sep]++atP 0 e.lp)):=Lib.hid (by rw [HTk.out,wrs_append,hbs1])
   rw [← hbs1] at hPF HB
   obtain ⟨W1,hW1⟩:∃ W1,wr.alloc (.cells #[.int .i64 k0,.int .i64 n0,.string s0,.string t0,.slice B0 q0 r0,.slice B1 q1 r1,.slice B2 q2 r2] 27)=W1:=⟨_,rfl⟩
   have HF1:Hid (PrF B p x m lim bs1 w W1):=Lib.hid (by rw [← hW1];exact hPF.out.below ((Below.refl _ _).alloc (Nat.le_refl _) _))
   have HE1:Hid (EB W1 wr.heap.size (.int .i64 k0) (.int .i64 n0) (.string s0) (.string t0) (.slice B0 q0 r0) (.slice B1 q1 r1) (.slice B2 q2 r2)):=Lib.hid (by rw [← hW1];exact EB.new wr _ _ _ _ _ _ _)
   have HRe:Hid (RepE (fun b=>b < B) W1 e [.int .i64 k0,.int .i64 n0,.string s0,.string t0,.slice B0 q0 r0,.slice B1 q1 r1,.slice B2 q2 r2]):=Lib.hid (by rw [← hW1];exact hc.rep.keep (Same.of_grown (World.grownBy_alloc wr _ none) (fun _ _=>by simp)))
   have hgp:wr.heap.size≠p:=by have:=hPF.out.1.ltp;omega
   have d0:=hc.d0
   have d1:=hc.d1
   have d2:=hc.d2
   have d3:=hc.d3
   have d4:=hc.d4
   have d5:=hc.d5
   have d6:=hc.d6
   have g0:=HE1.out.c0
   have g1:=HE1.out.c1
   have g2:=HE1.out.c2
   have g3:=HE1.out.c3
   have g4:=HE1.out.c4
   have g5:=HE1.out.c5
   have g6:=HE1.out.c6
   clear hc hbs1 he
   by_cases hk0:k=0
   ·have HB2:Hid (bs1.length+tot (atP 0 e.lp)≤140737488355328):=Lib.hid (by have:=HB.out;rwa [if_pos hk0] at this)
    have HT3:Hid (wrs lim bs (lsP sep (l.take (k+1)))=wrs lim bs1 (atP 0 e.lp)):=Lib.hid (by rw [HT2.out,if_pos hk0])
    have HC:=Lib.hid (conClos_any B p x m lim bs1 q e k0 n0 s0 t0 B0 q0 r0 B1 q1 r1 B2 q2 r2 W1 HF1.out.1 HE.out (HF1.out.2.blk HQ.out (by decide) HQp.out) HRe.out HB2.out)
    subst hk0
    simp only [Nat.zero_mul,Nat.add_zero] at d0 d1 d2 d3 d4 d5 d6
    have j0:(0:Int) < (n:Int):=by omega
    have j1:0 < n:=by omega
    go_wp2_with fail
    clear hW1
    refine HC.out.mono ?_
    rintro e' w3 ⟨rfl,hp3⟩
    have HP3:Hid (PrF B p x m lim (wrs lim bs (lsP sep (l.take (0+1)))) w w3):=Lib.hid (by rw [HT3.out];exact HF1.out.then hp3)
    clear hp3 d0 d1 d2 d3 d4 d5 d6 g0 g1 g2 g3 g4 g5 g6 HC
    go_wp2_with fail
    go_roundw
    case rel=>exact ⟨0+1,by omega,by go_num,HP3⟩
    case measure=>simp [intOf];omega
   ·have hd:decide (0 < (k:Int))=true:=by simp;omega
    have hd2:0 < k:=by omega
    have HB2:Hid (bs1.length+tot [sep]≤140737488355328):=Lib.hid (by have:=HB.out;rw [if_neg hk0,tot_append] at this;omega)
    have HB3:Hid ((wrs lim bs1 [sep]).length+tot (atP 0 e.lp)≤140737488355328):=Lib.hid (by have:=HB.out;rw [if_neg hk0,tot_append] at this;have h4:=wrs_len lim [sep] bs1;omega)
    have HT3:Hid (wrs lim bs (lsP sep (l.take (k+1)))=wrs lim (wrs lim bs1 [sep]) (atP 0 e.lp)):=Lib.hid (by rw [HT2.out,if_neg hk0,wrs_append])
    clear hk0
    go_wp2_with fail
    clear hW1
    refine (write_new [sep] W1 HF1.out (by simp) HB2.out).mono ?_
    rintro e' w2 ⟨rfl,hp2,hf2⟩
    have HP2:=Lib.hid hp2
    have HE2:=Lib.hid (HE1.out.fr' hf2 hgp)
    have HC:=Lib.hid (conClos_any B p x m lim _ q e k0 n0 s0 t0 B0 q0 r0 B1 q1 r1 B2 q2 r2 w2 hp2.1 HE.out (hp2.2.blk HQ.out (by decide) HQp.out) (HRe.out.keep hf2.same) HB3.out)
    clear hp2 hf2 d0 d1 d2 d3 d4 d5 d6 g0 g1 g2 g3 g4 g5 g6
    have g0:=HE2.out.c0
    have g1:=HE2.out.c1
    have g2:=HE2.out.c2
    have g3:=HE2.out.c3
    have g4:=HE2.out.c4
    have g5:=HE2.out.c5
    have g6:=HE2.out.c6
    go_wp2_with fail
    refine HC.out.mono ?_
    rintro e' w3 ⟨rfl,hp3⟩
    have HP3:Hid (PrF B p x m lim (wrs lim bs (lsP sep (l.take (k+1)))) w w3):=Lib.hid (by rw [HT3.out];exact HP2.out.then hp3)
    clear hp3 g0 g1 g2 g3 g4 g5 g6 HC
    go_wp2_with fail
    go_roundw
    case rel=>exact ⟨k+1,by omega,by go_num,HP3⟩
    case measure=>simp [intOf];omega
  ·obtain rfl:k=n:=by omega
   have HE:Hid (PrF B p x m lim (wrs lim bs (lsP sep l)) w wr):=Lib.hid (by have:=hPF.out;rwa [HL.out,List.take_length] at this)
   go_wp2_with fail
   go_end0
   exact ⟨rfl,HE.out⟩
set_option maxRecDepth 100000 in
set_option maxHeartbeats 4000000 in
theorem rule_con (n:Int)(s t:Txt)(ns:List Txt)(l:List Ex)(ops:List (Txt × List Txt))(bs2:List Ex)(hS:∀ e∈l,ExprSays e):RuleSays (.mk 10 n s t ns l ops bs2):=by
 intro B p x m lim bs cs w hP hre hlen
 obtain ⟨An,cn,Al,cl,Aa,ca,rfl,hf,hn,hl,ha,ho⟩:=hre
 show Calls Tryz.prog 44 #[.pointer (some ⟨p,0,none⟩),.agg #[.int .i64 10,.int .i64 n,.string (strB s),.string (strB t),.slice An ns.length cn,.slice Al l.length cl,.slice Aa bs2.length ca]] w _
 obtain ⟨W0,hW0⟩:∃ W0,w.alloc (.cells #[.pointer (some ⟨p,0,none⟩)] 39)=W0:=⟨_,rfl⟩
 have hz:W0.heap.size=w.heap.size+1:=by rw [← hW0];simp
 have HQ0:Hid (W0.heap[w.heap.size]?=some (.cells #[.pointer (some ⟨p,0,none⟩)] 39 (0,0))):=Lib.hid (by rw [← hW0];exact heap_alloc_new w _)
 have HF0:Hid (PrF B p x m lim bs w W0):=Lib.hid (by rw [← hW0];exact (PrF.refl hP).below ((Below.refl _ _).alloc (Nat.le_refl _) _))
 obtain ⟨W1,hW1⟩:∃ W1,W0.alloc (.cells #[.int .i64 10,.int .i64 n,.string (strB s),.string (strB t),.slice An ns.length cn,.slice Al l.length cl,.slice Aa bs2.length ca] 27)=W1:=⟨_,rfl⟩
 have HF1:Hid (PrF B p x m lim bs w W1):=Lib.hid (by rw [← hW1];exact HF0.out.below ((Below.refl _ _).alloc (Nat.le_refl _) _))
 have HE1:Hid (EB W1 W0.heap.size (.int .i64 10) (.int .i64 n) (.string (strB s)) (.string (strB t)) (.slice An ns.length cn) (.slice Al l.length cl) (.slice Aa bs2.length ca)):=Lib.hid (by rw [← hW1];exact EB.new W0 _ _ _ _ _ _ _)
 have HQ1:Hid (W1.heap[w.heap.size]?=some (.cells #[.pointer (some ⟨p,0,none⟩)] 39 (0,0))):=Lib.hid (by rw [← hW1,Lib.alloc_old _ _ _ (by omega)];exact HQ0.out)
 have hqp:w.heap.size≠p:=by have:=hP.ltp;omega
 have hgp:W0.heap.size≠p:=by have:=hP.ltp;omega
 have hqg:w.heap.size≠W0.heap.size:=by omega
 have q1:=cell_blk HQ1.out
 have e0:=HE1.out.c0
 have e1:=HE1.out.c1
 have e2:=HE1.out.c2
 have e3:=HE1.out.c3
 have e4:=HE1.out.c4
 have e5:=HE1.out.c5
 have e6:=HE1.out.c6
 obtain ⟨psx,hpsx⟩:∃ q,q=pcs (.mk 10 n s t ns l ops bs2):=⟨_,rfl⟩
 rw [← hpsx] at hlen ⊢
 by_cases hl0:l.length=0
 ·have HQ:Hid (psx=[s]):=Lib.hid (by rw [hpsx,pcs_mk];show [s]++(if (l.map Ex.lp).length=0 then _ else _)=_;rw [if_pos (by simpa using hl0)];rfl)
  have HL1:Hid (bs.length+tot [s]≤140737488355328):=Lib.hid (by rw [← HQ.out];exact hlen)
  obtain ⟨ml,hml⟩:∃ q,q=l.length:=⟨_,rfl⟩
  rw [← hml] at hW1 HE1 e5 hl0 ⊢
  clear hf hn hl ha ho hS hlen hP hpsx hml hz
  subst hl0
  go_enter Tryz.func44,Tryz.ntmps44
  go_wp2_with fail
  clear hW1 hW0
  refine (write_new [s] W1 HF1.out (by simp) HL1.out).mono ?_
  rintro e w2 ⟨rfl,hp2,hf2⟩
  have HP2:=Lib.hid hp2
  have HE2:=Lib.hid (HE1.out.fr' hf2 hgp)
  have g5:=HE2.out.c5
  clear hp2 hf2 e0 e1 e2 e3 e4 e5 e6 q1
  go_wp2_with fail
  go_end0
  exact ⟨rfl,by rw [HQ.out];exact HP2.out⟩
 ·have hpcs:psx=[s]++([[91]]++(lsP [44,32] l++[[93]])):=by
   rw [hpsx,pcs_mk]
   show [s]++(if (l.map Ex.lp).length=0 then _ else [[91]]++(listP [44,32] ((l.map Ex.lp).map (atP 0))++[[93]]))=_
   rw [if_neg (by simpa using hl0),List.map_map]
   rfl
  have HT:Hid (tot psx=tot [s]+(tot [[91]]+(tot (lsP [44,32] l)+tot [[93]]))):=Lib.hid (by rw [hpcs,tot_append,tot_append,tot_append])
  have HL1:=Lib.hid (wrs_fit hlen HT.out)
  have HL2:=Lib.hid (wrs_le lim [s] bs hlen HT.out)
  have HL3:=Lib.hid (wrs_fit HL2.out rfl)
  have HL4:=Lib.hid (wrs_le lim [[91]] _ HL2.out rfl)
  have HL5:=Lib.hid (wrs_fit HL4.out rfl)
  have HL6:=Lib.hid (wrs_le lim (lsP [44,32] l) _ HL4.out rfl)
  have HQ:Hid (wrs lim bs psx=wrs lim (wrs lim (wrs lim (wrs lim bs [s]) [[91]]) (lsP [44,32] l)) [[93]]):=Lib.hid (by rw [hpcs,wrs_append,wrs_append,wrs_append])
  have HPa:=Lib.hid (parts_of hl)
  have HLi:=Lib.hid (fun (bs':Txt) (w':World) (h1:PrF B p x m lim bs' w w') h2 h3=>listE_any B p x m lim bs' Al cl w.heap.size l [44,32] w' h1.1 hS (HPa.out.fr h1.2) h2 (Nat.le_trans hf.hcl.1 hf.hcl.2) h3)
  obtain ⟨ml,hml⟩:∃ q,q=l.length:=⟨_,rfl⟩
  rw [← hml] at hW1 HE1 e5 hl0 HLi ⊢
  have hlb:((ml:Int) == 0)=false:=by simpa using hl0
  clear hf hn hl ha ho hS hlen hP hpsx hml hz hpcs hl0
  go_enter Tryz.func44,Tryz.ntmps44
  go_wp2_with fail
  clear hW1 hW0
  refine (write_new [s] W1 HF1.out (by simp) HL1.out).mono ?_
  rintro e w2 ⟨rfl,hp2,hf2⟩
  have HP2:=Lib.hid hp2
  have HE2:=Lib.hid (HE1.out.fr' hf2 hgp)
  have HQ2:=Lib.hid (hf2.blk HQ1.out (by decide) hqp)
  have g5:=HE2.out.c5
  have q2:=cell_blk HQ2.out
  clear hp2 hf2 e0 e1 e2 e3 e4 e5 e6 q1
  go_wp2_with fail
  refine (write_new [[91]] w2 HP2.out (by simp) HL3.out).mono ?_
  rintro e w3 ⟨rfl,hp3,hf3⟩
  have HP3:=Lib.hid hp3
  have HE3:=Lib.hid (HE2.out.fr' hf3 hgp)
  have HQ3:=Lib.hid (hf3.blk HQ2.out (by decide) hqp)
  clear hp3 hf3 g5 q2
  have g5:=HE3.out.c5
  have q3:=cell_blk HQ3.out
  go_wp2_with fail
  refine (HLi.out _ w3 HP3.out HQ3.out HL5.out).mono ?_
  rintro e w4 ⟨rfl,hp4⟩
  have HP4:=Lib.hid (HP3.out.then hp4)
  have HQ4:=Lib.hid (hp4.2.blk HQ3.out (by decide) hqp)
  clear hp4 g5 q3
  have q4:=cell_blk HQ4.out
  go_wp2_with fail
  refine (write_new [[93]] w4 HP4.out (by simp) HL6.out).mono ?_
  rintro e w5 ⟨rfl,hp5,hf5⟩
  have HP5:=Lib.hid hp5
  clear hp5 hf5 q4
  go_wp2_with fail
  go_end0
  exact ⟨rfl,by rw [HQ.out];exact HP5.out⟩
structure ArmCells (B:Nat) (w:World) (b o:Nat) (h:Txt × List Txt) (e:Ex) (An:Option Addr) (cn:Nat) (k n:Int) (s t:ByteArray) (A0:Option Addr) (n0 c0:Nat) (A1:Option Addr) (n1 c1:Nat) (A2:Option Addr) (n2 c2:Nat):Prop where
 names:NamesAt (fun b=>b < B) w An h.2
 len:h.2.length≤cn∧cn≤maxLen
 rep:RepE (fun b=>b < B) w e [.int .i64 k,.int .i64 n,.string s,.string t,.slice A0 n0 c0,.slice A1 n1 c1,.slice A2 n2 c2]
 d0:w.cell? ⟨b,o,none⟩=some (.string (strB h.1))
 d1:w.cell? ⟨b,o+1,none⟩=some (.slice An h.2.length cn)
 d2:w.cell? ⟨b,o+2,none⟩=some (.int .i64 k)
 d3:w.cell? ⟨b,o+3,none⟩=some (.int .i64 n)
 d4:w.cell? ⟨b,o+4,none⟩=some (.string s)
 d5:w.cell? ⟨b,o+5,none⟩=some (.string t)
 d6:w.cell? ⟨b,o+6,none⟩=some (.slice A0 n0 c0)
 d7:w.cell? ⟨b,o+7,none⟩=some (.slice A1 n1 c1)
 d8:w.cell? ⟨b,o+8,none⟩=some (.slice A2 n2 c2)
def ArmsAt (B:Nat)(w:World)(A:Option Addr)(hs:List (Txt × List Txt))(bs:List Ex):Prop :=
 bs≠[]→∃ b off,A=some ⟨b,off,none⟩∧b < B∧b < w.heap.size∧∀ j h e,hs[j]?=some h→bs[j]?=some e→∃ An cn k n s t A0 n0 c0 A1 n1 c1 A2 n2 c2,ArmCells B w b (off+j*9) h e An cn k n s t A0 n0 c0 A1 n1 c1 A2 n2 c2
theorem ArmCells.fr {B p:Nat}{w w':World}{b o:Nat}{h:Txt × List Txt}{e:Ex}{An:Option Addr}{cn:Nat}{k n:Int}{s t:ByteArray}{A0:Option Addr}{n0 c0:Nat}{A1:Option Addr}{n1 c1:Nat}{A2:Option Addr}{n2 c2:Nat}(H:ArmCells B w b o h e An cn k n s t A0 n0 c0 A1 n1 c1 A2 n2 c2)(hb:b < B)(hlt:b < w.heap.size)(hf:FrP B p w w') :
  ArmCells B w' b o h e An cn k n s t A0 n0 c0 A1 n1 c1 A2 n2 c2:=by
 have kk:∀ o,w'.cell? ⟨b,o,none⟩=w.cell? ⟨b,o,none⟩:=fun o=>hf.same.cell (P:=fun b=>b < B) hb hlt o
 exact ⟨H.names.keep hf.same,H.len,H.rep.keep hf.same,(kk _).trans H.d0,(kk _).trans H.d1,(kk _).trans H.d2,(kk _).trans H.d3,(kk _).trans H.d4,(kk _).trans H.d5,(kk _).trans H.d6,(kk _).trans H.d7,(kk _).trans H.d8⟩
theorem ArmsAt.fr {B p:Nat}{w w':World}{A:Option Addr}{hs:List (Txt × List Txt)}{bs:List Ex}(h:ArmsAt B w A hs bs)(hf:FrP B p w w'):ArmsAt B w' A hs bs:=fun h0=>by
 obtain ⟨b,off,e,hb,hlt,hc⟩:=h h0
 refine ⟨b,off,e,hb,Nat.lt_of_lt_of_le hlt hf.2.2,fun j hd e h1 h2=>?_⟩
 obtain ⟨An,cn,k,n,s,t,A0,n0,c0,A1,n1,c1,A2,n2,c2,H⟩:=hc j hd e h1 h2
 exact ⟨An,cn,k,n,s,t,A0,n0,c0,A1,n1,c1,A2,n2,c2,H.fr hb hlt hf⟩
theorem arms_of {B:Nat}{w:World}{ops:List (Txt × List Txt)}{bs:List Ex}{Aa:Option Addr}(h:bs≠[]→∃ b off,Aa=some ⟨b,off,none⟩∧b < B∧b < w.heap.size∧RepA (fun b=>b < B) w b off ops bs):ArmsAt B w Aa ops bs:=fun h0=>by
 obtain ⟨b,off,rfl,hb,hlt,hr⟩:=h h0
 refine ⟨b,off,rfl,hb,hlt,fun j hd e h1 h2=>?_⟩
 obtain ⟨o,ho,A,c,cs,g1,g2,g3,g4,g7,hc,hn,he⟩:=RepA.at hr h2
 obtain rfl:o=hd:=Option.some.inj (ho.symm.trans h1)
 obtain ⟨xk,xn,xs,xt,A0,p0,r0,A1,p1,r1,A2,p2,r2,rfl⟩:=he.shape
 exact ⟨A,c,xk,xn,xs,xt,A0,p0,r0,A1,p1,r1,A2,p2,r2,hn,⟨g3,g4⟩,he,hc 0 _ rfl,hc 1 _ rfl,hc 2 _ rfl,hc 3 _ rfl,hc 4 _ rfl,hc 5 _ rfl,hc 6 _ rfl,hc 7 _ rfl,hc 8 _ rfl⟩
def AB (w:World)(g:Nat)(v0 v1 v2 v3 v4 v5 v6 v7 v8:Value):Prop:=w.heap[g]?=some (.cells #[v0,v1,v2,v3,v4,v5,v6,v7,v8] 57 (0,0))
theorem AB.c {w:World}{g:Nat}{v0 v1 v2 v3 v4 v5 v6 v7 v8:Value}(h:AB w g v0 v1 v2 v3 v4 v5 v6 v7 v8):w.cell? ⟨g,0,none⟩=some v0∧w.cell? ⟨g,1,none⟩=some v1∧w.cell? ⟨g,2,none⟩=some v2∧w.cell? ⟨g,3,none⟩=some v3∧w.cell? ⟨g,4,none⟩=some v4∧w.cell? ⟨g,5,none⟩=some v5∧w.cell? ⟨g,6,none⟩=some v6∧w.cell? ⟨g,7,none⟩=some v7∧w.cell? ⟨g,8,none⟩=some v8 :=
 ⟨cell_of_row w g 0 _ _ (0,0) h,cell_of_row w g 1 _ _ (0,0) h,cell_of_row w g 2 _ _ (0,0) h,cell_of_row w g 3 _ _ (0,0) h,cell_of_row w g 4 _ _ (0,0) h,cell_of_row w g 5 _ _ (0,0) h,cell_of_row w g 6 _ _ (0,0) h,cell_of_row w g 7 _ _ (0,0) h,cell_of_row w g 8 _ _ (0,0) h⟩
theorem AB.fr {B p:Nat}{w w':World}{g:Nat}{v0 v1 v2 v3 v4 v5 v6 v7 v8:Value}(h:AB w g v0 v1 v2 v3 v4 v5 v6 v7 v8)(hf:FrP B p w w')(hne:g≠p):AB w' g v0 v1 v2 v3 v4 v5 v6 v7 v8:=hf.blk h (by decide) hne
set_option maxRecDepth 100000 in
set_option maxHeartbeats 4000000 in
theorem arm_any (B p x m:Nat)(lim:Int)(bs:Txt)(h:Txt × List Txt)(e:Ex)(An:Option Addr)(cn:Nat)(k n:Int)(s t:ByteArray)(A0:Option Addr)(n0 c0:Nat)(A1:Option Addr)(n1 c1:Nat)(A2:Option Addr)(n2 c2:Nat)(w:World)(hP:Pr B p x m lim bs w)(hS:ExprSays e)
  (hN:NamesAt (fun b=>b < B) w An h.2) (hn:h.2.length≤maxLen) (hre:RepE (fun b=>b < B) w e [.int .i64 k,.int .i64 n,.string s,.string t,.slice A0 n0 c0,.slice A1 n1 c1,.slice A2 n2 c2]) (hlen:bs.length+tot (armP h e.lp)≤140737488355328) :
  Calls Tryz.prog 76 #[.pointer (some ⟨p,0,none⟩),.agg #[.string (strB h.1),.slice An h.2.length cn,.int .i64 k,.int .i64 n,.string s,.string t,.slice A0 n0 c0,.slice A1 n1 c1,.slice A2 n2 c2]] w fun e' w'=>e'=.returned (.tuple #[])∧PrF B p x m lim (wrs lim bs (armP h e.lp)) w w':=by
 obtain ⟨W1,hW1⟩:∃ W1,w.alloc (.cells #[.string (strB h.1),.slice An h.2.length cn,.int .i64 k,.int .i64 n,.string s,.string t,.slice A0 n0 c0,.slice A1 n1 c1,.slice A2 n2 c2] 57)=W1:=⟨_,rfl⟩
 have HF1:Hid (PrF B p x m lim bs w W1):=Lib.hid (by rw [← hW1];exact (PrF.refl hP).below ((Below.refl _ _).alloc (Nat.le_refl _) _))
 have HE1:Hid (AB W1 w.heap.size (.string (strB h.1)) (.slice An h.2.length cn) (.int .i64 k) (.int .i64 n) (.string s) (.string t) (.slice A0 n0 c0) (.slice A1 n1 c1) (.slice A2 n2 c2)):=Lib.hid (by rw [← hW1];exact heap_alloc_new w _)
 have hgp:w.heap.size≠p:=by have:=hP.ltp;omega
 have HT:Hid (tot (armP h e.lp)=tot [h.1]+(tot (spacedP h.2)+(tot [[32,45,62,32]]+tot (atP 0 e.lp)))):=Lib.hid (by unfold armP;rw [tot_append,tot_append,tot_append])
 have HL1:=Lib.hid (wrs_fit hlen HT.out)
 have HL2:=Lib.hid (wrs_le lim [h.1] bs hlen HT.out)
 have HL3:=Lib.hid (wrs_fit HL2.out rfl)
 have HL4:=Lib.hid (wrs_le lim (spacedP h.2) _ HL2.out rfl)
 have HL5:=Lib.hid (wrs_fit HL4.out rfl)
 have HL6:=Lib.hid (wrs_le lim [[32,45,62,32]] _ HL4.out rfl)
 have HQ:Hid (wrs lim bs (armP h e.lp)=wrs lim (wrs lim (wrs lim (wrs lim bs [h.1]) (spacedP h.2)) [[32,45,62,32]]) (atP 0 e.lp)):=Lib.hid (by unfold armP;rw [wrs_append,wrs_append,wrs_append])
 have HNs:=Lib.hid (fun (bs':Txt) (w':World) (h1:PrF B p x m lim bs' w w') h2=>spaced_any B p x m lim bs' An cn h.2 w' h1.1 (hN.keep h1.2.same) hn h2)
 have HX:=Lib.hid (fun (bs':Txt) (w':World) (h1:PrF B p x m lim bs' w w') h2=>hS B p x m lim bs' 0 _ w' h1.1 (hre.keep h1.2.same) h2)
 obtain ⟨psx,hpsx⟩:∃ q,q=armP h e.lp:=⟨_,rfl⟩
 rw [← hpsx] at HQ ⊢
 obtain ⟨m0,hm0⟩:∃ q,q=h.2.length:=⟨_,rfl⟩
 rw [← hm0] at hW1 HE1 HNs ⊢
 obtain ⟨h1,h2,h3,h4,h5,h6,h7,h8,h9⟩:=HE1.out.c
 clear hP hS hN hn hre hlen hpsx hm0
 go_enter Tryz.func76,Tryz.ntmps76
 go_wp2_with fail
 clear hW1
 refine (write_new [h.1] W1 HF1.out (by simp) HL1.out).mono ?_
 rintro e' w2 ⟨rfl,hp2,hf2⟩
 have HP2:=Lib.hid hp2
 have HE2:=Lib.hid (HE1.out.fr hf2 hgp)
 clear hp2 hf2 h1 h2 h3 h4 h5 h6 h7 h8 h9
 obtain ⟨h1,h2,h3,h4,h5,h6,h7,h8,h9⟩:=HE2.out.c
 go_wp2_with fail
 refine (HNs.out _ w2 HP2.out HL3.out).mono ?_
 rintro e' w3 ⟨rfl,hp3⟩
 have HP3:=Lib.hid (HP2.out.then hp3)
 have HE3:=Lib.hid (HE2.out.fr hp3.2 hgp)
 clear hp3 h1 h2 h3 h4 h5 h6 h7 h8 h9
 go_wp2_with fail
 refine (write_new [[32,45,62,32]] w3 HP3.out (by simp) HL5.out).mono ?_
 rintro e' w4 ⟨rfl,hp4,hf4⟩
 have HP4:=Lib.hid hp4
 have HE4:=Lib.hid (HE3.out.fr hf4 hgp)
 clear hp4 hf4
 obtain ⟨h1,h2,h3,h4,h5,h6,h7,h8,h9⟩:=HE4.out.c
 go_wp2_with fail
 refine (HX.out _ w4 HP4.out HL6.out).mono ?_
 rintro e' w5 ⟨rfl,hp5⟩
 have HP5:=Lib.hid (HP4.out.then hp5)
 clear hp5 h1 h2 h3 h4 h5 h6 h7 h8 h9
 go_wp2_with fail
 go_end0
 exact ⟨rfl,by rw [HQ.out];exact HP5.out⟩
def laP (sep:Txt)(hs:List (Txt × List Txt))(l:List Ex):List Txt:=listP sep (List.zipWith (fun h e=>armP h e.lp) hs l)
theorem laP_succ (sep:Txt)(hs:List (Txt × List Txt))(l:List Ex)(k:Nat)(h:Txt × List Txt)(e:Ex)(h1:hs[k]?=some h)(h2:l[k]?=some e):laP sep (hs.take (k+1)) (l.take (k+1))=laP sep (hs.take k) (l.take k)++(if k=0 then armP h e.lp else [sep]++armP h e.lp):=by
 have e1:hs.take (k+1)=hs.take k++[h]:=by rw [List.take_add_one,h1];rfl
 have e2:l.take (k+1)=l.take k++[e]:=by rw [List.take_add_one,h2];rfl
 have k1:=(List.getElem?_eq_some_iff.1 h1).1
 have k2:=(List.getElem?_eq_some_iff.1 h2).1
 unfold laP
 rw [e1,e2,List.zipWith_append (by rw [List.length_take,List.length_take];omega)]
 show listP sep (_++[armP h e.lp])=_
 rw [listP_snoc]
 congr 1
 by_cases h0:k=0
 ·subst h0;rfl
 ·rw [if_neg h0,if_neg (fun h=>h0 (by have:=congrArg List.length h;rw [List.length_zipWith,List.length_take,List.length_take,List.length_nil] at this;omega))]
theorem laP_prefix (sep:Txt)(hs:List (Txt × List Txt))(l:List Ex)(k:Nat):laP sep (hs.take k) (l.take k) <+: laP sep hs l:=by
 unfold laP
 rw [← List.take_zipWith]
 exact listP_prefix _ _ _
set_option maxRecDepth 100000 in
set_option maxHeartbeats 4000000 in
theorem listA_any (B p x m:Nat)(lim:Int)(bs:Txt)(A:Option Addr)(c:Nat)(hs:List (Txt × List Txt))(l:List Ex)(sep:Txt)(w:World)(h:Pr B p x m lim bs w)(hS:∀ e∈l,ExprSays e)(hP:ArmsAt B w A hs l)(hhl:hs.length=l.length)(hl:l.length≤maxLen)(hlen:bs.length+tot (laP sep hs l)≤140737488355328) :
  Calls Tryz.prog 104 #[.pointer (some ⟨p,0,none⟩),.slice A l.length c,.string (strB sep),.func (.func 76) #[.pointer (some ⟨p,0,none⟩)] #[]] w fun e w'=>e=.returned (.tuple #[])∧PrF B p x m lim (wrs lim bs (laP sep hs l)) w w':=by
 have HP:=Lib.hid h
 have HPa:=Lib.hid hP
 have HLn:=Lib.hid hlen
 have HS:=Lib.hid hS
 have HH:=Lib.hid hhl
 obtain ⟨n,hnn⟩:∃ n,n=l.length:=⟨_,rfl⟩
 have HL:=Lib.hid hnn
 unfold maxLen at hl
 rw [← hnn] at hl ⊢
 clear h hP hlen hS hnn hhl
 go_enter Tryz.func104,Tryz.ntmps104
 go_wp2_with fail
 go_loopw [12] (fun i wr=>∃ k:Nat,k≤n∧i=.int .i64 (k:Int)∧Hid (PrF B p x m lim (wrs lim bs (laP sep (hs.take k) (l.take k))) w wr)) (fun i _=>n - (intOf i).toNat)
 case atStart=>exact ⟨0,Nat.zero_le _,rfl,Lib.hid ⟨HP.out,FrP.refl _ _ _⟩⟩
 case round =>
  obtain ⟨k,hk,rfl,hPF⟩:=hrel
  have i0:(0:Int)≤(k:Int):=by omega
  by_cases hkl:k < n
  ·have hke:k < l.length:=by rw [← HL.out];exact hkl
   have hkh:k < hs.length:=by rw [HH.out];exact hke
   have i1:(k:Int) < (n:Int):=by omega
   obtain ⟨e,he⟩:∃ e,e=l[k]:=⟨_,rfl⟩
   obtain ⟨hd,hhd⟩:∃ e,e=hs[k]:=⟨_,rfl⟩
   have HEl:Hid (l[k]?=some e):=Lib.hid (by rw [he];exact List.getElem?_eq_getElem hke)
   have HHl:Hid (hs[k]?=some hd):=Lib.hid (by rw [hhd];exact List.getElem?_eq_getElem hkh)
   have HE:=Lib.hid (HS.out e (by rw [he];exact List.getElem_mem hke))
   have HTk:=Lib.hid (laP_succ sep hs l k hd e HHl.out HEl.out)
   have HB:Hid ((wrs lim bs (laP sep (hs.take k) (l.take k))).length+tot (if k=0 then armP hd e.lp else [sep]++armP hd e.lp)≤140737488355328):=Lib.hid (by
    have h1:=wrs_len lim (laP sep (hs.take k) (l.take k)) bs
    have h2:=tot_prefix (laP_prefix sep hs l (k+1))
    rw [HTk.out,tot_append] at h2
    have:=HLn.out
    omega)
   obtain ⟨b,off,rfl,hb2,hb1,hcc⟩:=(HPa.out.fr hPF.out.2) (List.ne_nil_of_length_pos (by omega))
   obtain ⟨An,cn,k0,n0,s0,t0,B0,q0,r0,B1,q1,r1,B2,q2,r2,hc⟩:=hcc k hd e HHl.out HEl.out
   obtain ⟨bs1,hbs1⟩:∃ b,b=wrs lim bs (laP sep (hs.take k) (l.take k)):=⟨_,rfl⟩
   have HT2:Hid (wrs lim bs (laP sep (hs.take (k+1)) (l.take (k+1)))=wrs lim bs1 (if k=0 then armP hd e.lp else [sep]++armP hd e.lp)):=Lib.hid (by rw [HTk.out,wrs_append,hbs1])
   rw [← hbs1] at hPF HB
   obtain ⟨m0,hm0⟩:∃ q,q=hd.2.length:=⟨_,rfl⟩
   obtain ⟨W1,hW1⟩:∃ W1,wr.alloc (.cells #[.string (strB hd.1),.slice An m0 cn,.int .i64 k0,.int .i64 n0,.string s0,.string t0,.slice B0 q0 r0,.slice B1 q1 r1,.slice B2 q2 r2] 57)=W1:=⟨_,rfl⟩
   have HF1:Hid (PrF B p x m lim bs1 w W1):=Lib.hid (by rw [← hW1];exact hPF.out.below ((Below.refl _ _).alloc (Nat.le_refl _) _))
   have HE1:Hid (AB W1 wr.heap.size (.string (strB hd.1)) (.slice An m0 cn) (.int .i64 k0) (.int .i64 n0) (.string s0) (.string t0) (.slice B0 q0 r0) (.slice B1 q1 r1) (.slice B2 q2 r2)):=Lib.hid (by rw [← hW1];exact heap_alloc_new wr _)
   have hsm:Same (fun b=>b < B) wr W1:=by rw [← hW1];exact Same.of_grown (World.grownBy_alloc wr _ none) (fun _ _=>by simp)
   have HAr:Hid (∀ (bs':Txt) (w':World),Pr B p x m lim bs' w'→Same (fun b=>b < B) W1 w'→bs'.length+tot (armP hd e.lp)≤140737488355328→Calls Tryz.prog 76 #[.pointer (some ⟨p,0,none⟩),.agg #[.string (strB hd.1),.slice An m0 cn,.int .i64 k0,.int .i64 n0,.string s0,.string t0,.slice B0 q0 r0,.slice B1 q1 r1,.slice B2 q2 r2]] w' fun e' w2=>e'=.returned (.tuple #[])∧PrF B p x m lim (wrs lim bs' (armP hd e.lp)) w' w2):=Lib.hid (fun bs' w' h1 h2 h3=>by
    rw [hm0]
    exact arm_any B p x m lim bs' hd e An cn k0 n0 s0 t0 B0 q0 r0 B1 q1 r1 B2 q2 r2 w' h1 HE.out (hc.names.keep (hsm.trans h2)) (Nat.le_trans hc.len.1 hc.len.2) (hc.rep.keep (hsm.trans h2)) h3)
   have hgp:wr.heap.size≠p:=by have:=hPF.out.1.ltp;omega
   have d0:=hc.d0
   have d1:=hc.d1
   have d2:=hc.d2
   have d3:=hc.d3
   have d4:=hc.d4
   have d5:=hc.d5
   have d6:=hc.d6
   have d7:=hc.d7
   have d8:=hc.d8
   rw [← hm0] at d1
   obtain ⟨g0,g1,g2,g3,g4,g5,g6,g7,g8⟩:=HE1.out.c
   clear hc hcc hbs1 he hhd hsm hm0
   by_cases hk0:k=0
   ·have HB2:Hid (bs1.length+tot (armP hd e.lp)≤140737488355328):=Lib.hid (by have:=HB.out;rwa [if_pos hk0] at this)
    have HT3:Hid (wrs lim bs (laP sep (hs.take (k+1)) (l.take (k+1)))=wrs lim bs1 (armP hd e.lp)):=Lib.hid (by rw [HT2.out,if_pos hk0])
    have HC:=Lib.hid (HAr.out bs1 W1 HF1.out.1 (Same.refl _ _) HB2.out)
    subst hk0
    simp only [Nat.zero_mul,Nat.add_zero] at d0 d1 d2 d3 d4 d5 d6 d7 d8
    have j0:(0:Int) < (n:Int):=by omega
    have j1:0 < n:=by omega
    go_wp2_with fail
    clear hW1
    refine HC.out.mono ?_
    rintro e' w3 ⟨rfl,hp3⟩
    have HP3:Hid (PrF B p x m lim (wrs lim bs (laP sep (hs.take (0+1)) (l.take (0+1)))) w w3):=Lib.hid (by rw [HT3.out];exact HF1.out.then hp3)
    clear hp3 d0 d1 d2 d3 d4 d5 d6 d7 d8 g0 g1 g2 g3 g4 g5 g6 g7 g8 HC
    go_wp2_with fail
    go_roundw
    case rel=>exact ⟨0+1,by omega,by go_num,HP3⟩
    case measure=>simp [intOf];omega
   ·have hdd:decide (0 < (k:Int))=true:=by simp;omega
    have hd2:0 < k:=by omega
    have HB2:Hid (bs1.length+tot [sep]≤140737488355328):=Lib.hid (by have:=HB.out;rw [if_neg hk0,tot_append] at this;omega)
    have HB3:Hid ((wrs lim bs1 [sep]).length+tot (armP hd e.lp)≤140737488355328):=Lib.hid (by have:=HB.out;rw [if_neg hk0,tot_append] at this;have h4:=wrs_len lim [sep] bs1;omega)
    have HT3:Hid (wrs lim bs (laP sep (hs.take (k+1)) (l.take (k+1)))=wrs lim (wrs lim bs1 [sep]) (armP hd e.lp)):=Lib.hid (by rw [HT2.out,if_neg hk0,wrs_append])
    clear hk0
    go_wp2_with fail
    clear hW1
    refine (write_new [sep] W1 HF1.out (by simp) HB2.out).mono ?_
    rintro e' w2 ⟨rfl,hp2,hf2⟩
    have HP2:=Lib.hid hp2
    have HE2:=Lib.hid (HE1.out.fr hf2 hgp)
    have HC:=Lib.hid (HAr.out _ w2 hp2.1 hf2.same HB3.out)
    clear hp2 hf2 d0 d1 d2 d3 d4 d5 d6 d7 d8 g0 g1 g2 g3 g4 g5 g6 g7 g8
    obtain ⟨g0,g1,g2,g3,g4,g5,g6,g7,g8⟩:=HE2.out.c
    go_wp2_with fail
    refine HC.out.mono ?_
    rintro e' w3 ⟨rfl,hp3⟩
    have HP3:Hid (PrF B p x m lim (wrs lim bs (laP sep (hs.take (k+1)) (l.take (k+1)))) w w3):=Lib.hid (by rw [HT3.out];exact HP2.out.then hp3)
    clear hp3 g0 g1 g2 g3 g4 g5 g6 g7 g8 HC
    go_wp2_with fail
    go_roundw
    case rel=>exact ⟨k+1,by omega,by go_num,HP3⟩
    case measure=>simp [intOf];omega
  ·obtain rfl:k=n:=by omega
   have HE:Hid (PrF B p x m lim (wrs lim bs (laP sep hs l)) w wr):=Lib.hid (by have:=hPF.out;rw [HL.out,List.take_length,← HH.out,List.take_length] at this;exact this)
   go_wp2_with fail
   go_end0
   exact ⟨rfl,HE.out⟩
theorem bracesP_eq (hs:List (Txt × List Txt))(l:List Ex):bracesP hs (l.map Ex.lp)=[[123,32]]++(laP [59,32] hs l++((if l.length=0 then [] else [[32]])++[[125]])):=by
 unfold bracesP laP
 rw [List.zipWith_map_right,List.length_map]
set_option maxRecDepth 100000 in
set_option maxHeartbeats 4000000 in
theorem braces_any (B p x m:Nat)(lim:Int)(bs:Txt)(A:Option Addr)(c:Nat)(hs:List (Txt × List Txt))(l:List Ex)(w:World)(h:Pr B p x m lim bs w)(hS:∀ e∈l,ExprSays e)(hP:ArmsAt B w A hs l)(hhl:hs.length=l.length)(hl:l.length≤maxLen)(hlen:bs.length+tot (bracesP hs (l.map Ex.lp))≤140737488355328) :
  Calls Tryz.prog 75 #[.pointer (some ⟨p,0,none⟩),.slice A l.length c,.func (.func 76) #[.pointer (some ⟨p,0,none⟩)] #[]] w fun e w'=>e=.returned (.tuple #[])∧PrF B p x m lim (wrs lim bs (bracesP hs (l.map Ex.lp))) w w':=by
 have HF1:=Lib.hid (PrF.refl h)
 have HLi:=Lib.hid (fun (bs':Txt) (w':World) (h1:PrF B p x m lim bs' w w') h3=>listA_any B p x m lim bs' A c hs l [59,32] w' h1.1 hS (hP.fr h1.2) hhl hl h3)
 have HT:Hid (tot (bracesP hs (l.map Ex.lp))=tot [[123,32]]+(tot (laP [59,32] hs l)+(tot (if l.length=0 then [] else [[32]])+tot [[125]]))):=Lib.hid (by rw [bracesP_eq,tot_append,tot_append,tot_append])
 have HL1:=Lib.hid (wrs_fit hlen HT.out)
 have HL2:=Lib.hid (wrs_le lim [[123,32]] bs hlen HT.out)
 have HL3:=Lib.hid (wrs_fit HL2.out rfl)
 have HL4:=Lib.hid (wrs_le lim (laP [59,32] hs l) _ HL2.out rfl)
 have HQ:Hid (wrs lim bs (bracesP hs (l.map Ex.lp))=wrs lim (wrs lim (wrs lim (wrs lim bs [[123,32]]) (laP [59,32] hs l)) (if l.length=0 then [] else [[32]])) [[125]]):=Lib.hid (by rw [bracesP_eq,wrs_append,wrs_append,wrs_append])
 obtain ⟨psx,hpsx⟩:∃ q,q=bracesP hs (l.map Ex.lp):=⟨_,rfl⟩
 rw [← hpsx] at HQ ⊢
 obtain ⟨ml,hml⟩:∃ q,q=l.length:=⟨_,rfl⟩
 rw [← hml] at HLi HL4 HQ ⊢
 clear h hS hP hhl hl hlen hpsx hml HT HL2
 by_cases h0:ml=0
 ·subst h0
  rw [if_pos rfl] at HL4 HQ
  go_enter Tryz.func75,Tryz.ntmps75
  go_wp2_with fail
  refine (write_new [[123,32]] w HF1.out (by simp) HL1.out).mono ?_
  rintro e w2 ⟨rfl,hp2,hf2⟩
  have HP2:=Lib.hid hp2
  clear hp2 hf2
  go_wp2_with fail
  refine (HLi.out _ w2 HP2.out HL3.out).mono ?_
  rintro e w3 ⟨rfl,hp3⟩
  have HP3:=Lib.hid (HP2.out.then hp3)
  clear hp3
  go_wp2_with fail
  refine (write_new [[125]] w3 HP3.out (by simp) HL4.out).mono ?_
  rintro e w4 ⟨rfl,hp4,hf4⟩
  have HP4:=Lib.hid hp4
  clear hp4 hf4
  go_wp2_with fail
  go_end0
  exact ⟨rfl,by rw [HQ.out];exact HP4.out⟩
 ·have hd:decide (0 < (ml:Int))=true:=by simp;omega
  have hd2:0 < ml:=by omega
  rw [if_neg h0] at HL4 HQ
  have HL5:=Lib.hid (wrs_fit HL4.out rfl)
  have HL6:=Lib.hid (wrs_le lim [[32]] _ HL4.out rfl)
  clear h0
  go_enter Tryz.func75,Tryz.ntmps75
  go_wp2_with fail
  refine (write_new [[123,32]] w HF1.out (by simp) HL1.out).mono ?_
  rintro e w2 ⟨rfl,hp2,hf2⟩
  have HP2:=Lib.hid hp2
  clear hp2 hf2
  go_wp2_with fail
  refine (HLi.out _ w2 HP2.out HL3.out).mono ?_
  rintro e w3 ⟨rfl,hp3⟩
  have HP3:=Lib.hid (HP2.out.then hp3)
  clear hp3
  go_wp2_with fail
  refine (write_new [[32]] w3 HP3.out (by simp) HL5.out).mono ?_
  rintro e w4 ⟨rfl,hp4,hf4⟩
  have HP4:=Lib.hid hp4
  clear hp4 hf4
  go_wp2_with fail
  refine (write_new [[125]] w4 HP4.out (by simp) HL6.out).mono ?_
  rintro e w5 ⟨rfl,hp5,hf5⟩
  have HP5:=Lib.hid hp5
  clear hp5 hf5
  go_wp2_with fail
  go_end0
  exact ⟨rfl,by rw [HQ.out];exact HP5.out⟩
set_option maxRecDepth 100000 in
set_option maxHeartbeats 4000000 in
theorem braced_any (B p x m:Nat)(lim:Int)(bs:Txt)(v0 v1 v2 v3 v4:Value)(Al:Option Addr)(cl:Nat)(Aa:Option Addr)(ca:Nat)(g:Nat)(ps:List Txt)(l:List Ex)(ops:List (Txt × List Txt))(bs2:List Ex)(w:World)(h:Pr B p x m lim bs w)(hS:∀ e∈l,ExprSays e)(hb:∀ e∈bs2,ExprSays e)
  (hP:PartsAt B w Al l) (hln:1≤l.length) (hA:ArmsAt B w Aa ops bs2) (hhl:ops.length=bs2.length) (hl:bs2.length≤maxLen) (hg:PcsAt w g ps) (hn:ps.length≤1000) (hlen:bs.length+tot (bracedP ps (nth (l.map Ex.lp) 0) ops (bs2.map Ex.lp))≤140737488355328) :
  Calls Tryz.prog 46 #[.pointer (some ⟨p,0,none⟩),.agg #[v0,v1,v2,v3,v4,.slice Al l.length cl,.slice Aa bs2.length ca],.slice (some ⟨g,0,none⟩) ps.length ps.length] w fun e' w'=>e'=.returned (.tuple #[])∧PrF B p x m lim (wrs lim bs (bracedP ps (nth (l.map Ex.lp) 0) ops (bs2.map Ex.lp))) w w':=by
 obtain ⟨W1,hW1⟩:∃ W1,w.alloc (.cells #[v0,v1,v2,v3,v4,.slice Al l.length cl,.slice Aa bs2.length ca] 27)=W1:=⟨_,rfl⟩
 have HF1:Hid (PrF B p x m lim bs w W1):=Lib.hid (by rw [← hW1];exact (PrF.refl h).below ((Below.refl _ _).alloc (Nat.le_refl _) _))
 have HE1:Hid (EB W1 w.heap.size v0 v1 v2 v3 v4 (.slice Al l.length cl) (.slice Aa bs2.length ca)):=Lib.hid (by rw [← hW1];exact EB.new w _ _ _ _ _ _ _)
 have hgp:w.heap.size≠p:=by have:=h.ltp;omega
 obtain ⟨x0,hx0⟩:∃ e,l[0]?=some e:=⟨_,List.getElem?_eq_getElem (by omega)⟩
 rw [nth_lp hx0] at hlen ⊢
 have HT:Hid (tot (bracedP ps x0.lp ops (bs2.map Ex.lp))=tot ps+(tot [[32]]+(tot (atP 0 x0.lp)+(tot [[32]]+tot (bracesP ops (bs2.map Ex.lp)))))):=Lib.hid (by unfold bracedP;rw [tot_append,tot_append,tot_append,tot_append])
 have HL1:=Lib.hid (wrs_fit hlen HT.out)
 have HL2:=Lib.hid (wrs_le lim ps bs hlen HT.out)
 have HL3:=Lib.hid (wrs_fit HL2.out rfl)
 have HL4:=Lib.hid (wrs_le lim [[32]] _ HL2.out rfl)
 have HL5:=Lib.hid (wrs_fit HL4.out rfl)
 have HL6:=Lib.hid (wrs_le lim (atP 0 x0.lp) _ HL4.out rfl)
 have HL7:=Lib.hid (wrs_fit HL6.out rfl)
 have HL8:=Lib.hid (wrs_le lim [[32]] _ HL6.out rfl)
 have HQ:Hid (wrs lim bs (bracedP ps x0.lp ops (bs2.map Ex.lp))=wrs lim (wrs lim (wrs lim (wrs lim (wrs lim bs ps) [[32]]) (atP 0 x0.lp)) [[32]]) (bracesP ops (bs2.map Ex.lp))):=Lib.hid (by unfold bracedP;rw [wrs_append,wrs_append,wrs_append,wrs_append])
 obtain ⟨psx,hpsx⟩:∃ q,q=bracedP ps x0.lp ops (bs2.map Ex.lp):=⟨_,rfl⟩
 rw [← hpsx] at HQ ⊢
 have HW:Hid (Calls Tryz.prog 25 #[.pointer (some ⟨p,0,none⟩),.slice (some ⟨g,0,none⟩) ps.length ps.length] W1 fun e w'=>e=.returned (.tuple #[])∧PrF B p x m lim (wrs lim bs ps) W1 w'):=Lib.hid (write_any B p x m lim bs g ps W1 HF1.out.1 (hg.fr HF1.out.2 (hg.ne h)) (by omega) HL1.out)
 have HS0:=Lib.hid (hS x0 (List.mem_of_getElem? hx0))
 have HPa:=Lib.hid hP
 have HX0:=Lib.hid hx0
 have HBr:=Lib.hid (fun (bs':Txt) (w':World) (h1:PrF B p x m lim bs' w w') h3=>braces_any B p x m lim bs' Aa ca ops bs2 w' h1.1 hb (hA.fr h1.2) hhl hl h3)
 obtain ⟨b,off,rfl⟩:=hP.addr (by omega)
 have i0:(0:Int) < (l.length:Int):=by omega
 have i0n:0 < l.length:=by omega
 obtain ⟨m2,hm2⟩:∃ n,n=ps.length:=⟨_,rfl⟩
 obtain ⟨ml,hml⟩:∃ q,q=l.length:=⟨_,rfl⟩
 obtain ⟨ma,hma⟩:∃ q,q=bs2.length:=⟨_,rfl⟩
 rw [← hml] at i0 i0n
 rw [← hml,← hma] at hW1 HE1 ⊢
 rw [← hma] at HBr
 rw [← hm2] at HW ⊢
 clear h hS hb hP hln hA hhl hl hg hn hlen hx0 hpsx hm2 hml hma HT HL1
 go_enter Tryz.func46,Tryz.ntmps46
 go_wp2_with fail
 clear hW1
 refine HW.out.mono ?_
 rintro e w2 ⟨rfl,hp2⟩
 have HP2:=Lib.hid (HF1.out.then hp2)
 have HE2:=Lib.hid (HE1.out.fr' hp2.2 hgp)
 clear hp2
 go_wp2_with fail
 refine (write_new [[32]] w2 HP2.out (by simp) HL3.out).mono ?_
 rintro e w3 ⟨rfl,hp3,hf3⟩
 have HP3:=Lib.hid hp3
 have HE3:=Lib.hid (HE2.out.fr' hf3 hgp)
 clear hp3 hf3
 obtain ⟨⟨hb1,hb2⟩,k0,n0,s0,t0,B0,q0,r0,B1,q1,r1,B2,q2,r2,hc⟩:=(HPa.out.fr HP3.out.2).at HX0.out
 have HX1:=Lib.hid (HS0.out B p x m lim _ 0 _ w3 HP3.out.1 hc.rep HL5.out)
 have g5:=HE3.out.c5
 have d0:=hc.d0
 have d1:=hc.d1
 have d2:=hc.d2
 have d3:=hc.d3
 have d4:=hc.d4
 have d5:=hc.d5
 have d6:=hc.d6
 simp only [Nat.zero_mul,Nat.add_zero] at d0 d1 d2 d3 d4 d5 d6
 clear hc
 go_wp2_with fail
 refine HX1.out.mono ?_
 rintro e w4 ⟨rfl,hp4⟩
 have HP4:=Lib.hid (HP3.out.then hp4)
 have HE4:=Lib.hid (HE3.out.fr' hp4.2 hgp)
 clear hp4 d0 d1 d2 d3 d4 d5 d6 hb1 hb2 g5
 go_wp2_with fail
 refine (write_new [[32]] w4 HP4.out (by simp) HL7.out).mono ?_
 rintro e w5 ⟨rfl,hp5,hf5⟩
 have HP5:=Lib.hid hp5
 have HE5:=Lib.hid (HE4.out.fr' hf5 hgp)
 have g6:=HE5.out.c6
 clear hp5 hf5
 go_wp2_with fail
 refine (HBr.out _ w5 HP5.out HL8.out).mono ?_
 rintro e w6 ⟨rfl,hp6⟩
 have HP6:=Lib.hid (HP5.out.then hp6)
 clear hp6 g6
 go_wp2_with fail
 go_end0
 exact ⟨rfl,by rw [HQ.out];exact HP6.out⟩
set_option maxRecDepth 100000 in
set_option maxHeartbeats 4000000 in
theorem rule_match (n:Int)(s t:Txt)(ns:List Txt)(l:List Ex)(ops:List (Txt × List Txt))(bs2:List Ex)(hS:∀ e∈l,ExprSays e)(hln:1≤l.length)(hb:∀ e∈bs2,ExprSays e):RuleSays (.mk 11 n s t ns l ops bs2):=by
 intro B p x m lim bs cs w hP hre hlen
 have HRE:=Lib.hid hre
 obtain ⟨An,cn,Al,cl,Aa,ca,rfl,hf,hn,hl,ha,ho⟩:=hre
 show Calls Tryz.prog 45 #[.agg #[.int .i64 11,.int .i64 n,.string (strB s),.string (strB t),.slice An ns.length cn,.slice Al l.length cl,.slice Aa bs2.length ca],.pointer (some ⟨x,0,none⟩)] w _
 obtain ⟨W1,hW1⟩:∃ W1,w.alloc (.cells #[.int .i64 11,.int .i64 n,.string (strB s),.string (strB t),.slice An ns.length cn,.slice Al l.length cl,.slice Aa bs2.length ca] 27)=W1:=⟨_,rfl⟩
 have HF1:Hid (PrF B p x m lim bs w W1):=Lib.hid (by rw [← hW1];exact (PrF.refl hP).below ((Below.refl _ _).alloc (Nat.le_refl _) _))
 have HE1:Hid (EB W1 w.heap.size (.int .i64 11) (.int .i64 n) (.string (strB s)) (.string (strB t)) (.slice An ns.length cn) (.slice Al l.length cl) (.slice Aa bs2.length ca)):=Lib.hid (by rw [← hW1];exact EB.new w _ _ _ _ _ _ _)
 have e0:=HE1.out.c0
 have e1:=HE1.out.c1
 have e2:=HE1.out.c2
 have e3:=HE1.out.c3
 have e4:=HE1.out.c4
 have e5:=HE1.out.c5
 have e6:=HE1.out.c6
 have hx1:=HF1.out.1.cx
 have hgp:w.heap.size≠p:=by have:=hP.ltp;omega
 have hpcs:pcs (.mk 11 n s t ns l ops bs2)=bracedP [[109,97,116,99,104]] (nth (l.map Ex.lp) 0) ops (bs2.map Ex.lp):=by rw [pcs_mk];rfl
 rw [hpcs] at hlen
 obtain ⟨psx,hpsx⟩:∃ q,q=pcs (.mk 11 n s t ns l ops bs2):=⟨_,rfl⟩
 have HQ:Hid (psx=bracedP [[109,97,116,99,104]] (nth (l.map Ex.lp) 0) ops (bs2.map Ex.lp)):=Lib.hid (by rw [hpsx,hpcs])
 rw [← hpsx]
 have HA:Hid (PrF B p x m lim bs w (W1.alloc (.cells ([[109,97,116,99,104]].map fun s=>Value.string (strB s)).toArray 9))):=Lib.hid (HF1.out.below ((Below.refl _ _).alloc (Nat.le_refl _) _))
 have HO:=Lib.hid (braced_any B p x m lim bs (.int .i64 11) (.int .i64 n) (.string (strB s)) (.string (strB t)) (.slice An ns.length cn) Al cl Aa ca W1.heap.size [[109,97,116,99,104]] l ops bs2 (W1.alloc (.cells ([[109,97,116,99,104]].map fun s=>Value.string (strB s)).toArray 9)) HA.out.1 hS hb ((parts_of hl).fr HA.out.2) hln ((arms_of ha).fr HA.out.2) ho (Nat.le_trans hf.hca.1 hf.hca.2) (heap_alloc_new W1 _) (by simp) hlen)
 clear hf hn hl ha ho hpcs hpsx hS hb hln hlen hP
 go_enter Tryz.func45,Tryz.ntmps45
 go_wp2_with fail
 clear hW1
 refine HO.out.mono ?_
 rintro e w2 ⟨rfl,hp2⟩
 have HR:=Lib.hid (HA.out.then hp2)
 clear hp2
 go_wp2_with fail
 go_end0
 exact ⟨rfl,by rw [HQ.out];exact HR.out⟩
set_option maxRecDepth 100000 in
set_option maxHeartbeats 4000000 in
theorem rule_handle (n:Int)(s t:Txt)(ns:List Txt)(l:List Ex)(ops:List (Txt × List Txt))(bs2:List Ex)(hS:∀ e∈l,ExprSays e)(hln:1≤l.length)(hb:∀ e∈bs2,ExprSays e):RuleSays (.mk 14 n s t ns l ops bs2):=by
 intro B p x m lim bs cs w hP hre hlen
 have HRE:=Lib.hid hre
 obtain ⟨An,cn,Al,cl,Aa,ca,rfl,hf,hn,hl,ha,ho⟩:=hre
 show Calls Tryz.prog 47 #[.pointer (some ⟨p,0,none⟩),.agg #[.int .i64 14,.int .i64 n,.string (strB s),.string (strB t),.slice An ns.length cn,.slice Al l.length cl,.slice Aa bs2.length ca]] w _
 obtain ⟨W1,hW1⟩:∃ W1,w.alloc (.cells #[.int .i64 14,.int .i64 n,.string (strB s),.string (strB t),.slice An ns.length cn,.slice Al l.length cl,.slice Aa bs2.length ca] 27)=W1:=⟨_,rfl⟩
 have HF1:Hid (PrF B p x m lim bs w W1):=Lib.hid (by rw [← hW1];exact (PrF.refl hP).below ((Below.refl _ _).alloc (Nat.le_refl _) _))
 have HE1:Hid (EB W1 w.heap.size (.int .i64 14) (.int .i64 n) (.string (strB s)) (.string (strB t)) (.slice An ns.length cn) (.slice Al l.length cl) (.slice Aa bs2.length ca)):=Lib.hid (by rw [← hW1];exact EB.new w _ _ _ _ _ _ _)
 have e0:=HE1.out.c0
 have e1:=HE1.out.c1
 have e2:=HE1.out.c2
 have e3:=HE1.out.c3
 have e4:=HE1.out.c4
 have e5:=HE1.out.c5
 have e6:=HE1.out.c6
 have hx1:=HF1.out.1.cx
 have hgp:w.heap.size≠p:=by have:=hP.ltp;omega
 by_cases h1:n=1
 ·subst h1
  have hpcs:pcs (.mk 14 1 s t ns l ops bs2)=bracedP [[115,104,97,108,108,111,119,32],s] (nth (l.map Ex.lp) 0) ops (bs2.map Ex.lp):=by rw [pcs_mk];rfl
  rw [hpcs] at hlen
  obtain ⟨psx,hpsx⟩:∃ q,q=pcs (.mk 14 1 s t ns l ops bs2):=⟨_,rfl⟩
  have HQ:Hid (psx=bracedP [[115,104,97,108,108,111,119,32],s] (nth (l.map Ex.lp) 0) ops (bs2.map Ex.lp)):=Lib.hid (by rw [hpsx,hpcs])
  rw [← hpsx]
  have HA:Hid (PrF B p x m lim bs w (W1.alloc (.cells ([[115,104,97,108,108,111,119,32],s].map fun s=>Value.string (strB s)).toArray 9))):=Lib.hid (HF1.out.below ((Below.refl _ _).alloc (Nat.le_refl _) _))
  have HO:=Lib.hid (braced_any B p x m lim bs (.int .i64 14) (.int .i64 1) (.string (strB s)) (.string (strB t)) (.slice An ns.length cn) Al cl Aa ca W1.heap.size [[115,104,97,108,108,111,119,32],s] l ops bs2 (W1.alloc (.cells ([[115,104,97,108,108,111,119,32],s].map fun s=>Value.string (strB s)).toArray 9)) HA.out.1 hS hb ((parts_of hl).fr HA.out.2) hln ((arms_of ha).fr HA.out.2) ho (Nat.le_trans hf.hca.1 hf.hca.2) (heap_alloc_new W1 _) (by simp) hlen)
  clear hf hn hl ha ho hpcs hpsx hS hb hln hlen hP
  go_enter Tryz.func47,Tryz.ntmps47
  go_wp2_with fail
  clear hW1
  refine HO.out.mono ?_
  rintro e w2 ⟨rfl,hp2⟩
  have HR:=Lib.hid (HA.out.then hp2)
  clear hp2
  go_wp2_with fail
  go_end0
  exact ⟨rfl,by rw [HQ.out];exact HR.out⟩
 ·have h1b:(n == 1)=false:=by simpa using h1
  have hpcs:pcs (.mk 14 n s t ns l ops bs2)=bracedP [[104,97,110,100,108,101,32],s] (nth (l.map Ex.lp) 0) ops (bs2.map Ex.lp):=by rw [pcs_mk];show bracedP [if n=1 then _ else _,s] _ _ _=_;rw [if_neg h1]
  rw [hpcs] at hlen
  obtain ⟨psx,hpsx⟩:∃ q,q=pcs (.mk 14 n s t ns l ops bs2):=⟨_,rfl⟩
  have HQ:Hid (psx=bracedP [[104,97,110,100,108,101,32],s] (nth (l.map Ex.lp) 0) ops (bs2.map Ex.lp)):=Lib.hid (by rw [hpsx,hpcs])
  rw [← hpsx]
  have HA:Hid (PrF B p x m lim bs w (W1.alloc (.cells ([[104,97,110,100,108,101,32],s].map fun s=>Value.string (strB s)).toArray 9))):=Lib.hid (HF1.out.below ((Below.refl _ _).alloc (Nat.le_refl _) _))
  have HO:=Lib.hid (braced_any B p x m lim bs (.int .i64 14) (.int .i64 n) (.string (strB s)) (.string (strB t)) (.slice An ns.length cn) Al cl Aa ca W1.heap.size [[104,97,110,100,108,101,32],s] l ops bs2 (W1.alloc (.cells ([[104,97,110,100,108,101,32],s].map fun s=>Value.string (strB s)).toArray 9)) HA.out.1 hS hb ((parts_of hl).fr HA.out.2) hln ((arms_of ha).fr HA.out.2) ho (Nat.le_trans hf.hca.1 hf.hca.2) (heap_alloc_new W1 _) (by simp) hlen)
  clear h1 hf hn hl ha ho hpcs hpsx hS hb hln hlen hP
  go_enter Tryz.func47,Tryz.ntmps47
  go_wp2_with fail
  clear hW1
  refine HO.out.mono ?_
  rintro e w2 ⟨rfl,hp2⟩
  have HR:=Lib.hid (HA.out.then hp2)
  clear hp2
  go_wp2_with fail
  go_end0
  exact ⟨rfl,by rw [HQ.out];exact HR.out⟩
end Go.Proofs.YtpjabnemkmdobaaGreatDoor
namespace Go.Proofs.YtpjabnemkmdobaaGreatDoor
open Go.RowKit
def retW:List UInt8:=[114,101,116,117,114,110]
def armErr (a:Int)(qu qv:Bool)(op:List UInt8)(n:Nat)(first:Bool):Int :=
 if a=1 then (if decide ((n:Int)≤4)=false then 7 else if qu=false then 4 else 0)
 else if first=true then (if (op == retW && (n:Int) == 1)=false then 7 else 0)
 else if ((n:Int) == 2)=false then 7 else if qv=false then 4 else 0
def ArmS (w:World)(S:ByteArray)(A:Option Addr)(n c:Nat)(w':World):Prop:=w'.cell? ⟨w.heap.size+1,0,none⟩=some (.string S)∧w'.cell? ⟨w.heap.size+1,1,none⟩=some (.slice A n c)∧w.heap.size+1 < w'.heap.size∧Below w.heap.size w w'
section
variable {w w1 w2:World} {S:ByteArray} {A:Option Addr} {n c:Nat}
theorem ArmS.all (h:ArmS w S A n c w1):w1.cell? ⟨w.heap.size+1,0,none⟩=some (.string S)∧w1.cell? ⟨w.heap.size+1,1,none⟩=some (.slice A n c)∧ArmS w S A n c w1:=⟨h.1,h.2.1,h⟩
theorem ArmS.drew (h:ArmS w S A n c w1):ArmS w S A n c w1.drew:=⟨h.1,h.2.1,h.2.2.1,h.2.2.2.drew⟩
theorem ArmS.below (h:ArmS w S A n c w1)(hb:Below w1.heap.size w1 w2):ArmS w S A n c w2 :=
 ⟨(hb.cell (p:=⟨_,_,none⟩) h.2.2.1).trans h.1,(hb.cell (p:=⟨_,_,none⟩) h.2.2.1).trans h.2.1,Nat.lt_of_lt_of_le h.2.2.1 hb.size,h.2.2.2.trans (hb.mono h.2.2.2.size)⟩
end
set_option maxRecDepth 100000 in
set_option maxHeartbeats 1000000 in
theorem checkArm_any (v0 v1 v2 v3 v4 v5 v6 u0 u1 u2 u3 u4 u5 u6:Value)(a:Int)(op:List UInt8)(A:Option Addr)(n c:Nat)(x0 x1 x2 x3 x4 x5 x6:Value)(first:Bool)(qu qv:Bool)(ha:a=1∨a≠1)(w:World)
  (HU:Hid (∀ w,Calls Tryz.prog 120 #[.string (strB op)] w fun e w'=>e=.returned (.bool qu)∧Below w.heap.size w w'))
  (HV:Hid (∀ w,Calls Tryz.prog 119 #[.string (strB op)] w fun e w'=>e=.returned (.bool qv)∧Below w.heap.size w w')) :
  Calls Tryz.prog 123 #[.agg #[v0,v1,v2,v3,v4,v5,v6,u0,u1,u2,u3,u4,u5,u6,.int .u8 a],.agg #[.string (strB op),.slice A n c,x0,x1,x2,x3,x4,x5,x6],.bool first] w fun e w'=>e=.returned (.int .i64 (armErr a qu qv op n first))∧Below w.heap.size w w':=by
 have hb0:=Lib.hid (((Below.refl w.heap.size w).alloc (Nat.le_refl _) (.cells #[v0,v1,v2,v3,v4,v5,v6,u0,u1,u2,u3,u4,u5,u6,.int .u8 a] 133)).alloc (by simp) (.cells #[.string (strB op),.slice A n c,x0,x1,x2,x3,x4,x5,x6] 57))
 obtain ⟨S,hS⟩:∃ S,S=strB op:=⟨_,rfl⟩
 have HS:=Lib.hid hS
 rw [← hS] at hb0 HU HV ⊢
 clear hS
 obtain ⟨r,hr⟩:∃ r,r=armErr a qu qv op n first:=⟨_,rfl⟩
 rw [← hr]
 unfold armErr at hr
 rcases ha with rfl | ha
 ·rw [if_pos rfl] at hr
  have HR:=Lib.hid hr
  clear hr
  go_enter Tryz.func123,Tryz.ntmps123
  go_wp2_with fail
  obtain ⟨W2,hW2⟩:∃ W2,(w.alloc (.cells #[v0,v1,v2,v3,v4,v5,v6,u0,u1,u2,u3,u4,u5,u6,.int .u8 1] 133)).alloc (.cells #[.string S,.slice A n c,x0,x1,x2,x3,x4,x5,x6] 57)=W2:=⟨_,rfl⟩
  have e0:W2.cell? ⟨w.heap.size+1,0,none⟩=some (.string S):=by rw [← hW2];simp [go_sem]
  have e1:W2.cell? ⟨w.heap.size+1,1,none⟩=some (.slice A n c):=by rw [← hW2];simp [go_sem]
  have hz:w.heap.size+1 < W2.heap.size:=by rw [← hW2];simp
  rw [hW2] at hb0 ⊢
  clear hW2
  have hb1:=hb0.out
  have hs0:ArmS w S A n c W2:=⟨e0,e1,hz,hb1⟩
  clear hb1 hz hb0
  go_region_held3 (fun w'=>w'.cell? ⟨w.heap.size+1,0,none⟩=some (.string S)∧w'.cell? ⟨w.heap.size+1,1,none⟩=some (.slice A n c)∧ArmS w S A n c w')
   ((refine ArmS.all ?_;first | assumption | exact ArmS.drew (by assumption) | exact ArmS.below (by assumption) (by assumption) | exact ArmS.below (ArmS.drew (by assumption)) (by assumption)))
   (first | (go_at_call 120;refine (HU.out _).mono ?_;rintro e w' ⟨rfl,hb⟩))
  rename_i hh
  have HB:=Lib.hid hh.2.2.2.2.2
  clear hh hb hs0 e0 e1
  obtain ⟨g,hg⟩:∃ g,g=decide ((n:Int)≤4):=⟨_,rfl⟩
  rw [← hg] at HR ⊢
  clear hg
  cases g
  ·have HR2:Hid (r=7):=Lib.hid (by rw [HR.out,if_pos rfl])
   go_wp2_with fail
   go_ret
   exact ⟨by rw [HR2.out];rfl,HB.out⟩
  ·cases qu
   ·have HR2:Hid (r=4):=Lib.hid (by rw [HR.out,if_neg (by simp),if_pos rfl])
    go_wp2_with fail
    go_ret
    exact ⟨by rw [HR2.out];rfl,HB.out⟩
   ·have HR2:Hid (r=0):=Lib.hid (by rw [HR.out,if_neg (by simp),if_neg (by simp)])
    go_wp2_with fail
    go_ret
    exact ⟨by rw [HR2.out];rfl,HB.out⟩
 ·rw [if_neg ha] at hr
  cases first
  ·rw [if_neg (by simp)] at hr
   have HR:=Lib.hid hr
   clear hr
   go_enter Tryz.func123,Tryz.ntmps123
   go_wp2_with fail
   obtain ⟨W2,hW2⟩:∃ W2,(w.alloc (.cells #[v0,v1,v2,v3,v4,v5,v6,u0,u1,u2,u3,u4,u5,u6,.int .u8 a] 133)).alloc (.cells #[.string S,.slice A n c,x0,x1,x2,x3,x4,x5,x6] 57)=W2:=⟨_,rfl⟩
   have e0:W2.cell? ⟨w.heap.size+1,0,none⟩=some (.string S):=by rw [← hW2];simp [go_sem]
   have e1:W2.cell? ⟨w.heap.size+1,1,none⟩=some (.slice A n c):=by rw [← hW2];simp [go_sem]
   have hz:w.heap.size+1 < W2.heap.size:=by rw [← hW2];simp
   rw [hW2] at hb0 ⊢
   clear hW2
   have hb1:=hb0.out
   have hs0:ArmS w S A n c W2:=⟨e0,e1,hz,hb1⟩
   clear hb1 hz hb0
   go_region_held3 (fun w'=>w'.cell? ⟨w.heap.size+1,0,none⟩=some (.string S)∧w'.cell? ⟨w.heap.size+1,1,none⟩=some (.slice A n c)∧ArmS w S A n c w')
    ((refine ArmS.all ?_;first | assumption | exact ArmS.drew (by assumption) | exact ArmS.below (by assumption) (by assumption) | exact ArmS.below (ArmS.drew (by assumption)) (by assumption)))
    (first | (go_at_call 119;refine (HV.out _).mono ?_;rintro e w' ⟨rfl,hb⟩))
   rename_i hh
   have HB:=Lib.hid hh.2.2.2.2.2
   clear hh hb hs0 e0 e1
   obtain ⟨g,hg⟩:∃ g,g=((n:Int) == 2):=⟨_,rfl⟩
   rw [← hg] at HR ⊢
   clear hg
   cases g
   ·have HR2:Hid (r=7):=Lib.hid (by rw [HR.out,if_pos rfl])
    go_wp2_with fail
    go_ret
    exact ⟨by rw [HR2.out];rfl,HB.out⟩
   ·cases qv
    ·have HR2:Hid (r=4):=Lib.hid (by rw [HR.out,if_neg (by simp),if_pos rfl])
     go_wp2_with fail
     go_ret
     exact ⟨by rw [HR2.out];rfl,HB.out⟩
    ·have HR2:Hid (r=0):=Lib.hid (by rw [HR.out,if_neg (by simp),if_neg (by simp)])
     go_wp2_with fail
     go_ret
     exact ⟨by rw [HR2.out];rfl,HB.out⟩
  ·rw [if_pos rfl] at hr
   have HR:=Lib.hid hr
   clear hr
   have hcmp:(S.toList == retW)=(op == retW):=by rw [HS.out,ByteArray.toList_eq,data_strB]
   by_cases hq:op=retW
   ·have g1:(S.toList == [114,101,116,117,114,110])=true:=hcmp.trans (by simpa using hq)
    have HR1:Hid (r=if ((n:Int) == 1)=false then 7 else 0):=Lib.hid (by rw [HR.out,show (op == retW)=true by simpa using hq,Bool.true_and])
    clear hcmp hq
    by_cases hn:((n:Int) == 1)=true
    ·have HR2:Hid (r=0):=Lib.hid (by rw [HR1.out,hn,if_neg (by simp)])
     go_enter Tryz.func123,Tryz.ntmps123
     go_wp2_with fail
     go_ret
     exact ⟨by rw [HR2.out];rfl,hb0.out⟩
    ·have hn2:((n:Int) == 1)=false:=by simpa using hn
     have HR2:Hid (r=7):=Lib.hid (by rw [HR1.out,hn2,if_pos rfl])
     clear hn
     go_enter Tryz.func123,Tryz.ntmps123
     go_wp2_with fail
     go_ret
     exact ⟨by rw [HR2.out];rfl,hb0.out⟩
   ·have g1:(S.toList == [114,101,116,117,114,110])=false:=hcmp.trans (by simpa using hq)
    have HR2:Hid (r=7):=Lib.hid (by rw [HR.out,show (op == retW)=false by simpa using hq,Bool.false_and,if_pos rfl])
    clear hcmp hq
    go_enter Tryz.func123,Tryz.ntmps123
    go_wp2_with fail
    go_ret
    exact ⟨by rw [HR2.out];rfl,hb0.out⟩
end Go.Proofs.YtpjabnemkmdobaaGreatDoor
namespace Go.Proofs.YtpjabnemkmdobaaGreatDoor
open Go.RowKit
def ArmsHd (w:World)(A:Option Addr)(ops:List (List UInt8 × List (List UInt8))):Prop :=
 ops≠[]→∃ b off,A=some ⟨b,off,none⟩∧b < w.heap.size∧∀ (j:Nat) (o:List UInt8 × List (List UInt8)),ops[j]?=some o→okS o.1∧(∀ x∈o.2,okS x)∧∃ An cn k0 m0 s0 t0 B0 p0 q0 B1 p1 q1 B2 p2 q2,o.2.length≤cn∧cn≤maxLen∧NamesAt (fun _=>True) w An o.2 ∧
  w.cell? ⟨b,off+j*9,none⟩=some (.string (strB o.1))∧w.cell? ⟨b,off+j*9+1,none⟩=some (.slice An o.2.length cn)∧w.cell? ⟨b,off+j*9+2,none⟩=some (.int .i64 k0)∧w.cell? ⟨b,off+j*9+3,none⟩=some (.int .i64 m0) ∧
  w.cell? ⟨b,off+j*9+4,none⟩=some (.string s0)∧w.cell? ⟨b,off+j*9+5,none⟩=some (.string t0)∧w.cell? ⟨b,off+j*9+6,none⟩=some (.slice B0 p0 q0)∧w.cell? ⟨b,off+j*9+7,none⟩=some (.slice B1 p1 q1)∧w.cell? ⟨b,off+j*9+8,none⟩=some (.slice B2 p2 q2)
theorem ArmsHd.below {w w':World}{A:Option Addr}{ops:List (List UInt8 × List (List UInt8))}(h:ArmsHd w A ops)(hb:Below w.heap.size w w'):ArmsHd w' A ops:=fun h0=>by
 obtain ⟨b,off,e,hlt,hc⟩:=h h0
 refine ⟨b,off,e,Nat.lt_of_lt_of_le hlt hb.size,fun j o hj=>?_⟩
 obtain ⟨h1,h2,An,cn,k0,m0,s0,t0,B0,p0,q0,B1,p1,q1,B2,p2,q2,h3,h4,h5,c0,c1,c2,c3,c4,c5,c6,c7,c8⟩:=hc j o hj
 have k:∀ o,w'.cell? ⟨b,o,none⟩=w.cell? ⟨b,o,none⟩:=fun o=>hb.cell (p:=⟨b,o,none⟩) hlt
 exact ⟨h1,h2,An,cn,k0,m0,s0,t0,B0,p0,q0,B1,p1,q1,B2,p2,q2,h3,h4,h5.keep (Same.of_below hb),(k _).trans c0,(k _).trans c1,(k _).trans c2,(k _).trans c3,(k _).trans c4,(k _).trans c5,(k _).trans c6,(k _).trans c7,(k _).trans c8⟩
theorem ArmsHd.take {w:World}{A:Option Addr}{ops:List (List UInt8 × List (List UInt8))}(h:ArmsHd w A ops)(k:Nat):ArmsHd w A (ops.take k):=fun h0=>by
 obtain ⟨b,off,e,hlt,hc⟩:=h (fun e=>h0 (by rw [e];simp))
 refine ⟨b,off,e,hlt,fun j o hj=>hc j o ?_⟩
 rw [List.getElem?_take] at hj
 split at hj
 ·exact hj
 ·cases hj
theorem RepA.heads {P:Nat→Prop}{w:World}{b off:Nat}{ops:List (List UInt8 × List (List UInt8))}{bs:List Ex}(hl:ops.length=bs.length)(hlt:b < w.heap.size)(h:RepA P w b off ops bs):ArmsHd w (some ⟨b,off,none⟩) ops:=fun _=>by
 refine ⟨b,off,rfl,hlt,fun j o hj=>?_⟩
 have hjl:=(List.getElem?_eq_some_iff.1 hj).1
 obtain ⟨o',ho',A,c,cs,h1,h2,h3,h4,h7,hc,hn,he⟩:=RepA.at h (List.getElem?_eq_getElem (show j < bs.length by omega))
 obtain rfl:o'=o:=Option.some.inj (ho'.symm.trans hj)
 generalize bs[j]=x at he
 cases x with
 | mk k1 m1 s1 t1 ns1 l1 ops1 bs1 =>
  obtain ⟨An,cn,Al,cl,Aa,ca,rfl,_⟩:=he
  exact ⟨h1,h2,A,c,_,_,_,_,_,_,_,_,_,_,_,_,_,h3,h4,hn.weaken (fun _ _=>trivial),hc 0 _ rfl,hc 1 _ rfl,hc 2 _ rfl,hc 3 _ rfl,hc 4 _ rfl,hc 5 _ rfl,hc 6 _ rfl,hc 7 _ rfl,hc 8 _ rfl⟩
set_option maxRecDepth 100000 in
set_option maxHeartbeats 1000000 in
theorem armClos_any (op x:List UInt8)(y1 x0 x1 x2 x3 x4 x5 x6:Value)(g:Nat)(w:World)(hg:w.cell? ⟨g,0,none⟩=some (.string (strB x)))(hz:g < w.heap.size) :
  Calls Tryz.prog 125 #[.agg #[.string (strB op),y1,x0,x1,x2,x3,x4,x5,x6],.pointer (some ⟨g,0,none⟩)] w fun e w'=>e=.returned (.bool (op == x))∧Below w.heap.size w w':=by
 have hb0:=Lib.hid ((Below.refl w.heap.size w).alloc (Nat.le_refl _) (.cells #[.string (strB op),y1,x0,x1,x2,x3,x4,x5,x6] 57))
 obtain ⟨S,hS⟩:∃ S,S=strB op:=⟨_,rfl⟩
 obtain ⟨X,hX⟩:∃ X,X=strB x:=⟨_,rfl⟩
 have hcmp:(S.toList == X.toList)=(op == x):=by rw [hS,hX,ByteArray.toList_eq,ByteArray.toList_eq,data_strB,data_strB]
 rw [← hS] at hb0 ⊢
 rw [← hX] at hg
 obtain ⟨q,hq⟩:∃ q,q=(op == x):=⟨_,rfl⟩
 rw [← hq] at hcmp ⊢
 clear hS hX hq
 cases q
 all_goals
  go_enter Tryz.func125,Tryz.ntmps125
  go_wp2_with fail
  go_ret
  exact ⟨rfl,hb0.out⟩
set_option maxRecDepth 100000 in
set_option maxHeartbeats 1000000 in
theorem indexArm_any (A:Option Addr)(c:Nat)(ops:List (List UInt8 × List (List UInt8)))(x:List UInt8)(g:Nat)(w:World)(h:ArmsHd w A ops)(hl:ops.length≤maxLen)(hg:w.cell? ⟨g,0,none⟩=some (.string (strB x)))(hz:g < w.heap.size) :
  Calls Tryz.prog 144 #[.slice A ops.length c,.func (.func 125) #[] #[.pointer (some ⟨g,0,none⟩)]] w fun e w'=>(∃ r:Int,e=.returned (.int .i64 r)∧-1≤r∧Hid (decide (0≤r)=(ops.map (·.1)).contains x))∧Below w.heap.size w w':=by
 have HN:=Lib.hid h
 have HG:=Lib.hid hg
 have HZ:=Lib.hid hz
 obtain ⟨n,hn⟩:∃ n,n=ops.length:=⟨_,rfl⟩
 have HL:=Lib.hid hn
 unfold maxLen at hl
 rw [← hn] at hl ⊢
 clear h hn hg hz
 go_enter Tryz.func144,Tryz.ntmps144
 go_wp2_with fail
 go_loopw [8] (fun i wr=>∃ k:Nat,k≤n∧i=.int .i64 (k:Int)∧Hid (Below w.heap.size w wr)∧Hid (x ∉ (ops.map (·.1)).take k)) (fun i _=>n - (intOf i).toNat)
 case atStart=>exact ⟨0,Nat.zero_le _,rfl,Lib.hid (Below.refl _ _),Lib.hid (by simp)⟩
 case round =>
  obtain ⟨k,hk,rfl,hB,hno⟩:=hrel
  have i0:(0:Int)≤(k:Int):=by omega
  by_cases hkl:k < n
  ·have hkl':k < ops.length:=by rw [← HL.out];exact hkl
   have hA:=HN.out.below hB.out (List.ne_nil_of_length_pos (by omega))
   obtain ⟨b,off,rfl,hlt,hc⟩:=hA
   obtain ⟨_,_,An,cn,k0,m0,s0,t0,B0,p0,q0,B1,p1,q1,B2,p2,q2,_,_,_,c0,c1,c2,c3,c4,c5,c6,c7,c8⟩:=hc k _ (List.getElem?_eq_getElem hkl')
   have HC:=Lib.hid (armClos_any ops[k].1 x (.slice An ops[k].2.length cn) (.int .i64 k0) (.int .i64 m0) (.string s0) (.string t0) (.slice B0 p0 q0) (.slice B1 p1 q1) (.slice B2 p2 q2) g wr ((hB.out.cell (p:=⟨g,0,none⟩) HZ.out).trans HG.out) (Nat.lt_of_lt_of_le HZ.out hB.out.size))
   obtain ⟨q,hq⟩:∃ q,q=(ops[k].1 == x):=⟨_,rfl⟩
   rw [← hq] at HC
   obtain ⟨Y,hY⟩:∃ Y,Y=strB ops[k].1:=⟨_,rfl⟩
   obtain ⟨m,hm⟩:∃ m,m=ops[k].2.length:=⟨_,rfl⟩
   rw [← hY] at c0 HC
   rw [← hm] at c1 HC
   have i1:(k:Int) < (n:Int):=by omega
   have hlm:k < (ops.map (·.1)).length:=by rw [List.length_map];exact hkl'
   have hgm:(ops.map (·.1))[k]=ops[k].1:=by rw [List.getElem_map]
   have HT:Hid ((ops.map (·.1)).take (k+1)=(ops.map (·.1)).take k++[ops[k].1]):=Lib.hid (by rw [List.take_add_one,List.getElem?_eq_getElem hlm,hgm];rfl)
   cases q
   ·have HQ:Hid (x≠ops[k].1):=Lib.hid (by have:=hq.symm;simp at this;exact fun e=>this e.symm)
    clear hc hlt hY hm hq hgm hlm
    go_wp2_with fail
    refine HC.out.mono ?_
    rintro e w2 ⟨rfl,hb⟩
    have HB2:=Lib.hid (hB.out.trans (hb.mono hB.out.size))
    clear hb HC c0 c1 c2 c3 c4 c5 c6 c7 c8
    go_wp2_with fail
    go_roundw
    case rel=>exact ⟨k+1,by omega,by go_num,HB2,Lib.hid (by rw [HT.out,List.mem_append,not_or];exact ⟨hno.out,by simpa using HQ.out⟩)⟩
    case measure=>simp [intOf];omega
   ·have HQ:Hid (x∈ops.map (·.1)):=Lib.hid (by have:=hq.symm;simp at this;rw [← this,← hgm];exact List.getElem_mem hlm)
    clear hc hlt hY hm hq hgm hlm
    go_wp2_with fail
    refine HC.out.mono ?_
    rintro e w2 ⟨rfl,hb⟩
    have HB2:=Lib.hid (hB.out.trans (hb.mono hB.out.size))
    clear hb HC c0 c1 c2 c3 c4 c5 c6 c7 c8
    go_wp2_with fail
    go_ret
    exact ⟨⟨k,rfl,by omega,Lib.hid (by rw [decide_eq_true i0];exact (List.contains_iff_mem.2 HQ.out).symm)⟩,HB2.out⟩
  ·obtain rfl:k=n:=by omega
   have HQ:Hid (x ∉ ops.map (·.1)):=Lib.hid (by have:=hno.out;rwa [HL.out,show ops.length=(ops.map (·.1)).length by rw [List.length_map],List.take_length] at this)
   go_wp2_with fail
   go_ret
   exact ⟨⟨-1,rfl,by omega,Lib.hid (by rw [decide_eq_false (by omega)];exact (by simpa using HQ.out))⟩,hB.out⟩
set_option maxRecDepth 100000 in
set_option maxHeartbeats 1000000 in
theorem containsArm_any (A:Option Addr)(c:Nat)(ops:List (List UInt8 × List (List UInt8)))(x:List UInt8)(g:Nat)(w:World)(h:ArmsHd w A ops)(hl:ops.length≤maxLen)(hg:w.cell? ⟨g,0,none⟩=some (.string (strB x)))(hz:g < w.heap.size) :
  Calls Tryz.prog 124 #[.slice A ops.length c,.func (.func 125) #[] #[.pointer (some ⟨g,0,none⟩)]] w fun e w'=>e=.returned (.bool ((ops.map (·.1)).contains x))∧Below w.heap.size w w':=by
 have HI:=Lib.hid (indexArm_any A c ops x g w h hl hg hz)
 clear h hl hg hz
 go_enter Tryz.func124,Tryz.ntmps124
 go_wp2_with fail
 refine HI.out.mono ?_
 rintro e w' ⟨⟨r,rfl,h1,h2⟩,hb⟩
 have HR:=h2
 have HB:=Lib.hid hb
 clear h2 hb
 go_wp2_with fail
 go_ret
 exact ⟨by rw [← HR.out];rfl,HB.out⟩
end Go.Proofs.YtpjabnemkmdobaaGreatDoor
namespace Go.Proofs.YtpjabnemkmdobaaGreatDoor
open Go.RowKit Go.Shelf
def Own2 {β:Type}(B:Nat)(J:β→World→Prop):Prop:=∀ s W W' row,J s W→W.grownBy W' row→(∀ r,row=some r→B≤r)→J s W'
theorem Own2.alloc {β:Type}{B:Nat}{J:β→World→Prop}(h:Own2 B J){s:β}{W:World}(o:Obj)(hs:J s W):J s (W.alloc o):=h s W _ none hs (World.grownBy_alloc W o none) (fun r e=>by cases e)
theorem Own2.putObj {β:Type}{B:Nat}{J:β→World→Prop}(h:Own2 B J){s:β}{W:World}{l:Nat}(o:Obj)(hs:J s W)(hB:B≤l):J s (W.putObj l o):=h s W _ (some l) hs (grownBy_putObj' W l o) (fun r e=>by cases e;exact hB)
theorem KC.putObj {P:Nat→Prop}{W:World}{l:Nat}{o:Obj}(o':Obj)(hl:W.heap[l]?=some o)(ho:o.isCells=false):KC P W (W.putObj l o') :=
 ⟨by simp,fun b i v _ hv=>by
  by_cases e:b=l
  ·subst e
   exfalso
   unfold World.cell? at hv
   cases o with
   | cells=>cases ho
   | _=>simp [hl] at hv
  ·rw [← hv];unfold World.cell? World.frozen?;simp only [show (W.putObj l o').heap[b]?=W.heap[b]? from World.putObj_heap_other (by omega)];exact ⟨trivial,trivial⟩⟩
theorem KeepsFrom.putObj_lt {B:Nat}{W:World}{l:Nat}(o:Obj)(h:l < B):KeepsFrom B W (W.putObj l o):=⟨by simp,fun k o' hB hk _=>(World.putObj_heap_other (by omega)).trans hk⟩
theorem keeps_mono {B B':Nat}{W W':World}(h:KeepsFrom B W W')(hb:B≤B'):KeepsFrom B' W W':=⟨h.size,fun k o hk hv ho=>h.same k o (by omega) hv ho⟩
def SeqX {α:Type}(n:Nat)(gf:Nat)(lb:Array Value)(encs:α→Array Value)(P:Nat→Prop)(S Sp:List α→Prop)(w0:World):Prop :=
 ∀ (l:Nat) (J Jx:List α→World→Prop) (W:World),w0.grownBy W none→Own2 W.heap.size J→Own2 W.heap.size Jx →
  (∀ pre x W1,J pre W1→YieldAt Fence.wide (n - 1) Tryz.prog l (encs x) W1 fun e W'=>(e=.returned (.bool true)∧J (pre++[x]) W'∧KC P W1 W'∧KeepsFrom W.heap.size W1 W')∨(e=.returned (.bool false)∧Jx (pre++[x]) W'∧KC P W1 W'∧KeepsFrom W.heap.size W1 W')) →
  J [] W→CallsIn Fence.wide n Tryz.prog gf (#[.func (.yield l) #[] #[]]++lb) W fun e W'=>(∃ v,e=.returned v)∧((∃ xs,S xs∧J xs W')∨(∃ pre,Sp pre∧Jx pre W'))
def postX {α:Type}(B:Nat)(P:Nat→Prop)(I:List α→World→Prop)(Ix:Code→List α→World→Prop)(xs:List α)(W:World):Exit→Act→World→Prop
 | .normal,_,W'=>KeepsFrom B W W'∧KC P W W'∧I xs W'
 | .ret,_,W'=>KeepsFrom B W W'∧KC P W W'∧Ix .ret xs W'
 | .exit id,_,W'=>KeepsFrom B W W'∧KC P W W'∧Ix (.exit id) xs W'
 | _,_,_=>False
theorem range_x {α:Type}{n:Nat}{a:Act}{w:World}{g:Operand}{ps:Array Tmp}{assign body:Code}{Q:Exit→Act→World→Prop}(hn:3≤n){gf:Nat}{lb:Array Value}
  (hg:a.eval g=.func (.func gf) #[] lb) (eg:∀ args w,(callFunc gf args).run Tryz.prog w=.ok (.enter gf args) w)
  {encs:α→Array Value} {P:Nat→Prop} {S Sp:List α→Prop} (hseq:SeqX (n - 1) gf lb encs P S Sp w) (hps:∀ x,(encs x).size=ps.size)
  (I:List α→World→Prop) (Ix:Code→List α→World→Prop) (hI:Own2 w.heap.size I) (hIx:∀ c,Own2 w.heap.size (Ix c)) (h0:I [] w) (Ax:α→Act→World→Prop)
  (hAx:∀ x a',Own2 w.heap.size (fun (_:Unit) W=>Ax x a' W)∨∀ W l o o',Ax x a' W→W.heap[l]?=some o→o.isCells=false→Ax x a' (W.putObj l o'))
  (hassign:∀ (l:Nat) (pre:List α) (x:α) (W:World) (K:Act→World→Prop),I pre W→w.heap.size≤W.heap.size→(∀ a' W',KeepsFrom w.heap.size W W'→KC P W W'→I pre W'→Ax x a' W'→K a' W') →
   assign.wpIn (Fence.wide.inRound l) (n - 1 - 1) Tryz.prog (Exit.then K (fun _ _ _=>False)) { tmps:=(ps.zip (encs x)).foldl (fun t (p,v)=>t.setIfInBounds p v) a.tmps,defers:=[] } W)
  (hbody:∀ (l:Nat) (pre:List α) (x:α) (a':Act) (W:World),w.heap.size≤l→(∃ r,W.heap[l]?=some (.loop r))→I pre W→Ax x a' W→body.wpIn (Fence.wide.inRound l) (n - 1 - 1) Tryz.prog (postX w.heap.size P I Ix (pre++[x]) W) a' W)
  (hdone:∀ (D:Nat) (xs:List α) (W:World),w.heap.size≤D→S xs→I xs W→W.heap[D]?=some (.deferred (some []))→Q .normal { a with defers:={ target:=.collected D,args:=#[] } :: a.defers } W)
  (hstop:∀ (D:Nat) (c:Code) (pre:List α) (W:World),w.heap.size≤D→Sp pre→Ix c pre W→W.heap[D]?=some (.deferred (some []))→c.wpIn Fence.wide n Tryz.prog Q { a with defers:={ target:=.collected D,args:=#[] } :: a.defers } W) :
  (Code.rangeFunc g ps assign body).wpIn Fence.wide n Tryz.prog Q a w:=by
 refine wpIn_rangeFunc ?_
 intro fn hfn
 rw [show Fence.wide.round=none from rfl]
 obtain ⟨rec,hrec⟩:∃ rec:LoopState→Option Code→Loop,rec=fun st pe=>{ state:=st,pending:=pe,fn,tmps:=a.tmps,params:=ps,assign,body,defers:=w.heap.size }:=⟨_,rfl⟩
 obtain ⟨W1,hW1⟩:∃ W1,(w.alloc (.deferred (some []))).alloc (.loop (rec .ready none))=W1:=⟨_,rfl⟩
 have hL1:W1.heap[w.heap.size+1]?=some (.loop (rec .ready none)):=by
  rw [← hW1];have:=World.alloc_heap_new (w.alloc (.deferred (some []))) (.loop (rec .ready none));rwa [World.size_alloc] at this
 have hK1:W1.heap[w.heap.size]?=some (.deferred (some [])):=by
  rw [← hW1];exact (Below.heap_alloc _ _ _ (by simp)).trans (World.alloc_heap_new w _)
 have hg1:∀ row,w.grownBy W1 row:=fun row=>by rw [← hW1];exact grown_trans (World.grownBy_alloc _ _ _) (World.grownBy_alloc _ _ _)
 have hz1:W1.heap.size=w.heap.size+2:=by rw [← hW1];simp
 refine ⟨w.heap.size+1,[{ target:=.collected w.heap.size,args:=#[] }],W1,{ target:=.fn (.func gf) lb,args:=#[.func (.yield (w.heap.size+1)) #[] #[]] },W1,gf,
  #[.func (.yield (w.heap.size+1)) #[] #[]]++lb,W1,?_,?_,?_,?_,fun _=>by omega,?_⟩
 ·rw [← hW1,hrec];exact run_enterLoop_outer _ _ _ _ _
 ·simp only [resolve,hg]
  simp [go_sem]
 ·intro f' hf';trivial
 ·simp [invoke,go_sem,eg]
 ·refine (hseq (w.heap.size+1)
   (fun pre W=>I pre W∧W.heap[w.heap.size+1]?=some (.loop (rec .ready none))∧W.heap[w.heap.size]?=some (.deferred (some [])))
   (fun pre W=>∃ c,Ix c pre W∧W.heap[w.heap.size+1]?=some (.loop (rec .done (some c)))∧W.heap[w.heap.size]?=some (.deferred (some [])))
   W1 (hg1 none) ?_ ?_ ?_ ⟨hI _ _ _ _ h0 (hg1 none) (fun r e=>by cases e),hL1,hK1⟩).mono ?_
  ·rintro s A B row ⟨hi,hl,hk⟩ hgr hr
   have l1:=(Array.getElem?_eq_some_iff.1 hl).1
   have hne:∀ k,k < W1.heap.size→some k≠row:=fun k hk e=>by have:=hr k e.symm;omega
   exact ⟨hI _ _ _ _ hi hgr (fun r e=>by have:=hr r e;omega),(hgr.block _ l1 (hne _ (by omega))).trans hl,(hgr.block _ (by omega) (hne _ (by omega))).trans hk⟩
  ·rintro s A B row ⟨c,hi,hl,hk⟩ hgr hr
   have l1:=(Array.getElem?_eq_some_iff.1 hl).1
   have hne:∀ k,k < W1.heap.size→some k≠row:=fun k hk e=>by have:=hr k e.symm;omega
   exact ⟨c,hIx c _ _ _ _ hi hgr (fun r e=>by have:=hr r e;omega),(hgr.block _ l1 (hne _ (by omega))).trans hl,(hgr.block _ (by omega) (hne _ (by omega))).trans hk⟩
  ·
   rintro pre x W ⟨hi,hl,hk⟩
   have hlt:w.heap.size+1 < W.heap.size:=(Array.getElem?_eq_some_iff.1 hl).1
   have hy:=run_yield (P:=Tryz.prog) (args:=encs x) hl (by rw [hrec];exact hps x)
   rw [hrec] at hy
   refine ⟨fn,_,assign,body,hy,roundIn_of_wpIn hfn ?_⟩
   refine hassign _ pre x W _ hi (by omega) ?_
   intro a' WA hkA hcA hiA hax
   have hlA:=hkA.same _ _ (by omega) hl rfl
   have hdA:=hkA.same _ _ (Nat.le_refl _) hk rfl
   have hltA:w.heap.size+1 < WA.heap.size:=(Array.getElem?_eq_some_iff.1 hlA).1
   refine ⟨_,run_beginRound hlA (by rw [hrec]),?_⟩
   obtain ⟨WB,hWB⟩:∃ WB,WA.putObj (w.heap.size+1) (.loop { rec .ready none with state:=.busy })=WB:=⟨_,rfl⟩
   have hl2:WB.heap[w.heap.size+1]?=some (.loop { rec .ready none with state:=.busy }):=by rw [← hWB];exact World.putObj_heap_same hltA
   have hk2:WB.heap[w.heap.size]?=some (.deferred (some [])):=by rw [← hWB];exact (World.putObj_heap_other (by omega)).trans hdA
   have hcB:KC P W WB:=by rw [← hWB];exact hcA.trans (KC.putObj _ hlA rfl)
   have hfB:KeepsFrom W1.heap.size W WB:=by rw [← hWB];exact (keeps_mono hkA (by omega)).trans (KeepsFrom.putObj_lt _ (by omega))
   have hiB:I pre WB:=by rw [← hWB];exact hI.putObj _ hiA (by omega)
   have hxB:Ax x a' WB:=by
    rw [← hWB]
    rcases hAx x a' with h | h
    ·exact h.putObj (s:=()) _ hax (by omega)
    ·exact h _ _ _ _ hax hlA rfl
   have hgo:=hbody _ pre x a' WB (by omega) ⟨_,hl2⟩ hiB hxB
   have fin:∀ (jump:Option Code) (W3:World),KeepsFrom w.heap.size WB W3 →
     ∃ W4,(Instr.endRound (w.heap.size+1) jump).run Tryz.prog W3=.ok (.bool jump.isNone) W4∧W4=W3.putObj (w.heap.size+1) (.loop (rec (if jump.isNone then .ready else .done) jump))∧(∃ o,W3.heap[w.heap.size+1]?=some o∧o.isCells=false) ∧
      W4.heap[w.heap.size+1]?=some (.loop (rec (if jump.isNone then .ready else .done) jump))∧W4.heap[w.heap.size]?=some (.deferred (some [])):=fun jump W3 hk3=>by
    have hl3:=hk3.same _ _ (by omega) hl2 rfl
    have hd3:=hk3.same _ _ (Nat.le_refl _) hk2 rfl
    have hend:=run_endRound (P:=Tryz.prog) jump hl3
    rw [hrec] at hend ⊢
    exact ⟨_,hend,rfl,⟨_,hl3,rfl⟩,World.putObj_heap_same (Array.getElem?_eq_some_iff.1 hl3).1,(World.putObj_heap_other (by omega)).trans hd3⟩
   subst hWB
   refine wpIn_mono hgo ?_
   rintro e a3 W3 hp
   cases e with
   | normal =>
    obtain ⟨hk3,hc3,hi3⟩:=hp
    obtain ⟨W4,hr4,hW4,⟨o,ho,hoc⟩,hl4,hd4⟩:=fin none W3 hk3
    exact ⟨_,_,hr4,.inl ⟨rfl,⟨by rw [hW4];exact hI.putObj _ hi3 (by omega),hl4,hd4⟩,hcB.trans (hc3.trans (by rw [hW4];exact KC.putObj _ ho hoc)),hfB.trans ((keeps_mono hk3 (by omega)).trans (by rw [hW4];exact KeepsFrom.putObj_lt _ (by omega)))⟩⟩
   | ret =>
    obtain ⟨hk3,hc3,hi3⟩:=hp
    obtain ⟨W4,hr4,hW4,⟨o,ho,hoc⟩,hl4,hd4⟩:=fin (some .ret) W3 hk3
    exact ⟨_,_,hr4,.inr ⟨rfl,⟨.ret,by rw [hW4];exact (hIx _).putObj _ hi3 (by omega),hl4,hd4⟩,hcB.trans (hc3.trans (by rw [hW4];exact KC.putObj _ ho hoc)),hfB.trans ((keeps_mono hk3 (by omega)).trans (by rw [hW4];exact KeepsFrom.putObj_lt _ (by omega)))⟩⟩
   | exit id =>
    obtain ⟨hk3,hc3,hi3⟩:=hp
    obtain ⟨W4,hr4,hW4,⟨o,ho,hoc⟩,hl4,hd4⟩:=fin (some (.exit id)) W3 hk3
    exact ⟨_,_,hr4,.inr ⟨rfl,⟨.exit id,by rw [hW4];exact (hIx _).putObj _ hi3 (by omega),hl4,hd4⟩,hcB.trans (hc3.trans (by rw [hW4];exact KC.putObj _ ho hoc)),hfB.trans ((keeps_mono hk3 (by omega)).trans (by rw [hW4];exact KeepsFrom.putObj_lt _ (by omega)))⟩⟩
   | goto t=>exact hp.elim
   | panic ch=>exact hp.elim
   | outgrown=>exact hp.elim
  ·rintro e W2 ⟨⟨v,rfl⟩,(⟨xs,hS,hi,hl,hk⟩ | ⟨pre,hSp,c,hi,hl,hk⟩)⟩
   ·have hend:=run_endLoop (P:=Tryz.prog) hl (by rw [hrec];simp)
    rw [hrec] at hend
    exact ⟨none,_,hend,hdone _ xs _ (Nat.le_refl _) hS (hI.putObj _ hi (by omega)) ((World.putObj_heap_other (by omega)).trans hk)⟩
   ·have hend:=run_endLoop (P:=Tryz.prog) hl (by rw [hrec];simp)
    rw [hrec] at hend
    exact ⟨some c,_,hend,hstop _ c pre _ (Nat.le_refl _) hSp ((hIx c).putObj _ hi (by omega)) ((World.putObj_heap_other (by omega)).trans hk)⟩
end Go.Proofs.YtpjabnemkmdobaaGreatDoor
namespace Go.Proofs.YtpjabnemkmdobaaGreatDoor
open Go.RowKit
theorem NamesAt.tight {P:Nat→Prop}{w:World}{A:Option Addr}{L:List (List UInt8)}(h:NamesAt P w A L):NamesAt (fun x=>P x∧x < w.heap.size) w A L:=fun h0=>by
 obtain ⟨b,off,e,hp,hlt,hc⟩:=h h0
 exact ⟨b,off,e,⟨hp,hlt⟩,hlt,hc⟩
mutual
theorem RepE.tight {P:Nat→Prop}{w:World}:∀ {e:Ex} {cs:List Value},RepE P w e cs→RepE (fun x=>P x∧x < w.heap.size) w e cs
 | .mk k n s t ns l ops bs,cs,h=>by
  obtain ⟨An,cn,Al,cl,Aa,ca,e,hf,hn,hl,ha,ho⟩:=h
  refine ⟨An,cn,Al,cl,Aa,ca,e,hf,hn.tight,fun h0=>?_,fun h0=>?_,ho⟩
  ·obtain ⟨b,off,e,hp,hlt,hr⟩:=hl h0
   exact ⟨b,off,e,⟨hp,hlt⟩,hlt,RepL.tight hr⟩
  ·obtain ⟨b,off,e,hp,hlt,hr⟩:=ha h0
   exact ⟨b,off,e,⟨hp,hlt⟩,hlt,RepA.tight hr⟩
theorem RepL.tight {P:Nat→Prop}{w:World}{b:Nat}:∀ {l:List Ex} {off:Nat},RepL P w b off l→RepL (fun x=>P x∧x < w.heap.size) w b off l
 | [],off,_=>trivial
 | e :: r,off,h=>by
  obtain ⟨⟨cs,h7,hc,he⟩,hr⟩:=h
  exact ⟨⟨cs,h7,hc,RepE.tight he⟩,RepL.tight hr⟩
theorem RepA.tight {P:Nat→Prop}{w:World}{b:Nat}:∀ {l:List Ex} {off:Nat} {ops:List (List UInt8 × List (List UInt8))},RepA P w b off ops l→RepA (fun x=>P x∧x < w.heap.size) w b off ops l
 | [],off,ops,_=>trivial
 | e :: r,off,ops,h=>by
  obtain ⟨op,ns,q,A,c,cs,e1,h1,h2,h3,h4,h7,hc,hn,he,hr⟩:=h
  exact ⟨op,ns,q,A,c,cs,e1,h1,h2,h3,h4,h7,hc,hn.tight,RepE.tight he,RepA.tight hr⟩
end
theorem cellsAt_new (w:World)(xs:List Value)(ty:Nat):CellsAt (w.alloc (.cells xs.toArray ty)) w.heap.size 0 xs:=fun i v hi=>by
 have:=heap_alloc_new w (.cells xs.toArray ty)
 rw [Nat.zero_add]
 unfold World.cell?
 rw [this]
 simpa using hi
def OpRel (w0:World)(r t b g go c:Nat)(ts:List Rt)(dp:Nat)(Chain:Ex→Nat→Prop)(wr:World):Prop :=
 ∃ (ex:Ex) (nx:Nat) (k n:Int) (s u:ByteArray) (A0:Option Addr) (n0 m0:Nat) (A1:Option Addr) (n1 m1:Nat) (A2:Option Addr) (n2 m2:Nat),Chain ex nx∧PS wr b g go c ts nx dp ∧
  EB wr r (.int .i64 0) (.int .i64 0) (.string ⟨#[]⟩) (.string ⟨#[]⟩) (.slice none 0 0) (.slice none 0 0) (.slice none 0 0) ∧
  EB wr t (.int .i64 k) (.int .i64 n) (.string s) (.string u) (.slice A0 n0 m0) (.slice A1 n1 m1) (.slice A2 n2 m2) ∧
  RepE (fun x=>r < x∧x≠t) wr ex [.int .i64 k,.int .i64 n,.string s,.string u,.slice A0 n0 m0,.slice A1 n1 m1,.slice A2 n2 m2]∧w0.grownBy wr (some b)
end Go.Proofs.YtpjabnemkmdobaaGreatDoor
namespace Go.Proofs.YtpjabnemkmdobaaGreatDoor
open Go.RowKit
theorem res_expr1 {tmps:Array Value}{w:World}{g:Nat}{v0 v1 v2 v3 v4 v5 v6:Value}(h2:tmps.getD 1 undef=.pointer (some ⟨g,0,none⟩))(h:EB w g v0 v1 v2 v3 v4 v5 v6) :
  (results Tryz.f55 tmps).run Tryz.prog w=.ok (.agg #[v0,v1,v2,v3,v4,v5,v6]) w:=by
 have c0:=h.c0
 have c1:=h.c1
 have c2:=h.c2
 have c3:=h.c3
 have c4:=h.c4
 have c5:=h.c5
 have c6:=h.c6
 have h2':tmps[1]?.getD undef=.pointer (some ⟨g,0,none⟩):=by simpa using h2
 simp [results,Tryz.results55,go_sem,h2',c0,c1,c2,c3,c4,c5,c6]
def NoWord (t:Rt):Prop:=t.s≠[102,117,110]∧t.s≠[108,101,116]∧t.s≠[114,101,99]∧t.s≠[105,102]∧t.s≠[117,115,105,110,103]
section
variable {b g go c:Nat} {ts:List Rt} {dp nx n1 n2:Nat} {l:Int} {e1 e2:Ex} {t t2:Rt}
end
end Go.Proofs.YtpjabnemkmdobaaGreatDoor
namespace Go.Proofs.YtpjabnemkmdobaaGreatDoor
open Go.RowKit
section
variable {b g go c:Nat} {ts:List Rt} {dp nx:Nat} {t t2:Rt}
end
def tsB:List Rt:=[⟨1,[108,101,116],0,0⟩,⟨0,[120],0,4⟩,⟨4,[61],0,6⟩,⟨3,[],1,8⟩,⟨5,[],0,9⟩]
theorem tok_all {ts:List Rt}(hl:ts.length≤100000)(h:∀ t∈ts,okS t.s∧okN t.n):TokOk ts:=⟨hl,fun _ t hj=>h t (List.mem_of_getElem? hj)⟩
instance (s:List UInt8):Decidable (okS s):=by unfold okS;infer_instance
instance (n:Int):Decidable (okN n):=by unfold okN;infer_instance
instance (t:Rt):Decidable (NoHead t):=by unfold NoHead;infer_instance
instance (t:Rt):Decidable (NoAtom t):=by unfold NoAtom;infer_instance
instance (t:Rt):Decidable (NoWord t):=by unfold NoWord;infer_instance
theorem tsB_ok:TokOk tsB:=tok_all (by decide) (by decide)
def exA1:Ex:=leafOf ⟨3,[],1,0⟩
def exA2:Ex:=leafOf ⟨3,[],2,4⟩
def exAx:Ex:=leafOf ⟨0,[120],0,8⟩
def exAy:Ex:=leafOf ⟨0,[121],0,12⟩
def exA:Ex:=primE [60] (primE [43] exA1 (primE [42] exA2 exAx)) exAy
end Go.Proofs.YtpjabnemkmdobaaGreatDoor
namespace Go.Proofs.YtpjabnemkmdobaaGreatDoor
open Go.RowKit
def B1 (w:World)(x ty:Nat)(v:Value):Prop:=w.heap[x]?=some (.cells #[v] ty (0,0))
section
variable {w w':World} {x ty:Nat} {v:Value}
theorem B1.lt (h:B1 w x ty v):x < w.heap.size:=(Array.getElem?_eq_some_iff.1 h).1
theorem B1.c (h:B1 w x ty v):w.cell? ⟨x,0,none⟩=some v:=cell_of_row w x 0 _ _ (0,0) h
theorem B1.fr (h:B1 w x ty v)(i:Nat):w.frozen? ⟨x,i,none⟩=false:=by
 unfold B1 at h;simp [World.frozen?,h]
theorem B1.new (w:World)(ty:Nat)(v:Value):B1 (w.alloc (.cells #[v] ty)) w.heap.size ty v:=heap_alloc_new w _
theorem B1.kept (h:B1 w x ty v){row:Option Nat}(hg:w.grownBy w' row)(hne:some x≠row):B1 w' x ty v:=(hg.block x h.lt hne).trans h
theorem B1.set (h:B1 w x ty v)(u:Value):B1 (w.setCell ⟨x,0,none⟩ u) x ty u:=by
 unfold B1 at h ⊢;simp [World.setCell,Array.getElem?_modify,h]
end
theorem catch_idle (x a5 a6:Nat)(w:World) :
  CallsD Tryz.prog 83 #[.pointer (some ⟨x,0,none⟩),.pointer (some ⟨a5,0,none⟩),.pointer (some ⟨a6,0,none⟩)] .returning w fun e u' w'=>e=.returned (.tuple #[])∧u'=.returning∧w'=w:=by
 refine callsD_of_wpS Tryz.func83 rfl fun c₀ cs hu=>?_
 apply wpS_seq
 apply wpS_region
 simp [wpOpsS,go_sem,recoverD,hu,Tryz.ntmps83,Exit.thenS]
 simp only [Array.replicate_succ,Array.replicate_zero,List.push_toArray,List.setIfInBounds_toArray,List.set_cons_succ,List.set_cons_zero,List.append_toArray,List.nil_append,List.cons_append]
 refine wpS_of_wp ?_
 go_wp2_with fail
 cases c₀
 simp_all [bodyPostS,results,Tryz.results83]
theorem catch_fail (x a5 a6 b g go c:Nat)(ts:List Rt)(nx dp:Nat)(t:Rt)(v:Value)(w:World)(h:PS w b g go c ts nx dp)(hx:BoxP w x b)(ht:ts[nx]?=some t)(h5:B1 w a5 3 v)(h6:B1 w a6 30 v)(hne:a5≠a6) :
  CallsD Tryz.prog 83 #[.pointer (some ⟨x,0,none⟩),.pointer (some ⟨a5,0,none⟩),.pointer (some ⟨a6,0,none⟩)] (.panicking [{ v:=failV,recovered:=false }]) w fun e u' w' =>
   e=.returned (.tuple #[])∧u'=.panicking [{ v:=failV,recovered:=true }]∧∃ w1,Below w.heap.size w w1∧w'=(w1.setCell ⟨a5,0,none⟩ (.int .i64 t.p)).setCell ⟨a6,0,none⟩ (.int .i64 2):=by
 have HP:=Lib.hid (peek_any b g go c ts nx dp t w h ht)
 have x0:=hx.c
 have H5:=Lib.hid h5
 have H6:=Lib.hid h6
 have fl3:=tfield3
 have q1:¬ a5=a6:=hne
 have q2:¬ a6=a5:=fun e=>hne e.symm
 obtain ⟨tk,tss,tn,tp⟩:=t
 obtain ⟨S,hS⟩:∃ S,S=strB tss:=⟨_,rfl⟩
 simp only at HP ⊢
 rw [← hS] at HP
 clear hS h hx ht h5 h6 hne
 refine callsD_of_wpS Tryz.func83 rfl fun c₀ cs hu=>?_
 apply wpS_seq
 apply wpS_region
 simp only [failV] at hu ⊢
 simp [wpOpsS,go_sem,recoverD,hu,Tryz.ntmps83,Exit.thenS]
 simp only [Array.replicate_succ,Array.replicate_zero,List.push_toArray,List.setIfInBounds_toArray,List.set_cons_succ,List.set_cons_zero,List.append_toArray,List.nil_append,List.cons_append]
 refine wpS_of_wp ?_
 go_wp2_with fail
 refine HP.out.mono ?_
 rintro e w1 ⟨rfl,hb⟩
 have H51:=Lib.hid (H5.out.kept (grown_below hb none) (by simp))
 have H61:=Lib.hid (H6.out.kept (grown_below hb none) (by simp))
 have HB:=Lib.hid hb
 have c5:=H51.out.c
 have c6:=H61.out.c
 have f5:=H51.out.fr 0
 have f6:=H61.out.fr 0
 clear hb x0
 go_wp2_with fail
 refine ⟨rfl,_,rfl,.tuple #[],by simp [results,Tryz.results83,go_sem],rfl,rfl,w1,HB.out,rfl⟩
end Go.Proofs.YtpjabnemkmdobaaGreatDoor
