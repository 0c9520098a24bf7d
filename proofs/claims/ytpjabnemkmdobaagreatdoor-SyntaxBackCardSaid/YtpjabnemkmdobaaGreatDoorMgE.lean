/- Texts put together by program: Desc Nodes Meas FirstE Msd ChkA ChkB ChkC ChkD ChkH ChkI ChkJ. -/
import Derived.Test.YtpjabnemkmdobaaGreatDoorMgD
import Derived.Test.YtpjabnemkmdobaaGreatDoorMgA
import Derived.Test.YtpjabnemkmdobaaGreatDoorMgB
import Derived.RegionTactic
import Derived.ChangeAlike
namespace Go.Proofs.YtpjabnemkmdobaaGreatDoor
open Go.RowKit Go.Shelf
attribute [local go_sem] Oper.semAt_some
mutual
def nodesE:Int→Ex→List (Int × Ex)
 | d,.mk k n s t ns l ops bs=>(d,.mk k n s t ns l ops bs) :: (nodesL (d+1) l++nodesL (d+1) bs)
def nodesL:Int→List Ex→List (Int × Ex)
 | _,[]=>[]
 | d,x :: r=>nodesE d x++nodesL d r
end
mutual
def hE:Ex→Nat
 | .mk _ _ _ _ _ l _ bs=>1+max (hL l) (hL bs)
def hL:List Ex→Nat
 | []=>0
 | x :: r=>max (hE x) (hL r)
end
theorem nodesL_append (d:Int):∀ a b,nodesL d (a++b)=nodesL d a++nodesL d b
 | [],b=>by simp [nodesL]
 | x :: r,b=>by simp [nodesL,nodesL_append d r b]
theorem nodesE_parts (d:Int):∀ e,nodesE d e=(d,e) :: nodesL (d+1) e.parts
 | .mk k n s t ns l ops bs=>by rw [nodesE,Ex.parts,nodesL_append];rfl
theorem hL_mem:∀ {l:List Ex} {x:Ex},x∈l→hE x≤hL l
 | y :: r,x,h=>by
  rcases List.mem_cons.1 h with rfl | h
  ·rw [hL];exact Nat.le_max_left _ _
  ·rw [hL];exact Nat.le_trans (hL_mem h) (Nat.le_max_right _ _)
theorem hE_part:∀ {e x:Ex},x∈e.parts→hE x+1≤hE e
 | .mk k n s t ns l ops bs,x,h=>by
  rw [hE]
  rcases List.mem_append.1 h with h | h
  ·have:=hL_mem (show x∈l from h);omega
  ·have:=hL_mem (show x∈bs from h);omega
theorem KC.own {P:Nat→Prop}{A W W':World}{row:Option Nat}(h:KC P A W)(hg:W.grownBy W' row)(hr:∀ r,row=some r→A.heap.size≤r):KC P A W' :=
 ⟨Nat.le_trans h.1 hg.size,fun b o v hp hv=>by
  have hlt:b < A.heap.size:=by
   cases hh:A.heap[b]? with
   | none=>unfold World.cell? at hv;simp [hh] at hv
   | some x=>exact (Array.getElem?_eq_some_iff.1 hh).1
  have h1:=h.2 b o v hp hv
  rw [← h1.1,← h1.2];unfold World.cell? World.frozen?
  simp only [hg.block b (Nat.lt_of_lt_of_le hlt h.1) (fun e=>by have:=hr b e.symm;omega)]
  exact ⟨trivial,trivial⟩⟩
theorem keeps_own {B:Nat}{A W W':World}{row:Option Nat}(h:KeepsFrom B A W)(hg:W.grownBy W' row)(hr:∀ r,row=some r→A.heap.size≤r):KeepsFrom B A W' :=
 ⟨Nat.le_trans h.size hg.size,fun k o hB hk ho=>by
  have hlt:=(Array.getElem?_eq_some_iff.1 hk).1
  have h1:=h.same k o hB hk ho
  rw [hg.block k (Nat.lt_of_lt_of_le hlt h.size) (fun e=>by have:=hr k e.symm;omega)]
  exact h1⟩
set_option maxRecDepth 100000 in
set_option maxHeartbeats 400000 in
theorem exprParts_any (k n:Int)(s t:ByteArray)(A0:Option Addr)(n0 c0:Nat)(A1:Option Addr)(n1 c1:Nat)(A2:Option Addr)(n2 c2:Nat)(w:World) :
  Calls Tryz.prog 63 #[.agg #[.int .i64 k,.int .i64 n,.string s,.string t,.slice A0 n0 c0,.slice A1 n1 c1,.slice A2 n2 c2]] w fun e w' =>
   e=.returned (.func (.func 94) #[] #[.pointer (some ⟨w.heap.size,0,none⟩)])∧w'=w.alloc (.cells #[.int .i64 k,.int .i64 n,.string s,.string t,.slice A0 n0 c0,.slice A1 n1 c1,.slice A2 n2 c2] 27):=by
 have hmf:∀ (fn:Fn) (first cap:Array Value) (w:World),(Instr.makeFunc fn first cap).run Tryz.prog w=.ok (.func fn first cap) w:=fun _ _ _ _=>rfl
 go_enter Tryz.func63,Tryz.ntmps63
 go_wp2_with fail
 go_ret
 exact ⟨rfl,rfl⟩
def fx {P:Nat→Prop}{w0:World}(x:Int × Pt (fun _=>True) P w0):Int × Ex:=(x.1,x.2.x)
theorem res_desc {tmps:Array Value}{w:World}{g:Nat}{v:Value}(h8:tmps.getD 8 undef=.pointer (some ⟨g,0,none⟩))(h:w.cell? ⟨g,0,none⟩=some v)(hv:v=.bool true∨v=.bool false) :
  (results Tryz.f93 tmps).run Tryz.prog w=.ok v w:=by
 have h8':tmps[8]?.getD undef=.pointer (some ⟨g,0,none⟩):=by simpa using h8
 rcases hv with rfl | rfl <;> simp [results,Tryz.results93,go_sem,h8',h]
theorem KC.same {P:Nat→Prop}{W:World}{b o:Nat}{v:Value}(h:W.cell? ⟨b,o,none⟩=some v):KC P W (W.setCell ⟨b,o,none⟩ v) :=
 ⟨by simp [World.setCell],fun x i u _ hu=>⟨by
  by_cases e:x=b∧i=o
  ·obtain ⟨rfl,rfl⟩:=e
   rw [h] at hu
   rw [World.cell?_setCell_same' _ _ _ (by rw [h];rfl)]
   exact hu
  ·rw [World.cell?_setCell_other]
   ·exact hu
   ·intro e2;injection e2 with e3 e4;exact e ⟨e3.symm,e4.symm⟩,World.frozen?_setCell _ _ _ _⟩⟩
theorem nodesL_snoc (d:Int)(a:List Ex)(x:Ex):nodesL d (a++[x])=nodesL d a++nodesE d x:=by rw [nodesL_append];simp [nodesL]
theorem nodesL_prefix (d:Int){a b:List Ex}(h:a <+: b):nodesL d a <+: nodesL d b:=by
 obtain ⟨c,rfl⟩:=h;rw [nodesL_append];exact List.prefix_append _ _
def DQ {P:Nat→Prop}{w0:World}(B:Nat)(J Jx:List (Int × Pt (fun _=>True) P w0)→World→Prop)(pre:List (Int × Pt (fun _=>True) P w0))(d:Int)(e:Ex)(W:World)(r:Ending)(W':World):Prop :=
 (r=.returned (.bool true)∧∃ ys,ys.map fx=nodesE d e∧J (pre++ys) W'∧KC P W W'∧KeepsFrom B W W')∨(r=.returned (.bool false)∧∃ q,q.map fx <+: nodesE d e∧Jx (pre++q) W'∧KC P W W'∧KeepsFrom B W W')
set_option maxRecDepth 100000 in
set_option maxHeartbeats 4000000 in
theorem descend_in (l B:Nat)(P:Nat→Prop)(w0:World)(J Jx:List (Int × Pt (fun _=>True) P w0)→World→Prop)(hJ:Own2 B J)(hJx:Own2 B Jx)(hPB:∀ b,B≤b→P b)
  (hY:∀ (m:Nat) pre (x:Int × Pt (fun _=>True) P w0) W,J pre W→YieldAt Fence.wide m Tryz.prog l #[.int .i64 x.1,.agg x.2.cs.toArray] W fun e W' =>
   (e=.returned (.bool true)∧J (pre++[x]) W'∧KC P W W'∧KeepsFrom B W W')∨(e=.returned (.bool false)∧Jx (pre++[x]) W'∧KC P W W'∧KeepsFrom B W W')) (e:Ex) :
  ∀ (d:Int) (pre:List (Int × Pt (fun _=>True) P w0)) (cs:List Value) (W:World),RepE P w0 e cs→KC P w0 W→J pre W→B≤W.heap.size→0≤d∧d+hE e≤1000000 →
   Calls Tryz.prog 93 #[.agg cs.toArray,.int .i64 d,.func (.func 63) #[] #[],.func (.yield l) #[] #[]] W (DQ B J Jx pre d e W):=by
 refine Ex.ind (P:=fun e=>∀ (d:Int) (pre:List (Int × Pt (fun _=>True) P w0)) (cs:List Value) (W:World),RepE P w0 e cs→KC P w0 W→J pre W→B≤W.heap.size→0≤d∧d+hE e≤1000000 →
   Calls Tryz.prog 93 #[.agg cs.toArray,.int .i64 d,.func (.func 63) #[] #[],.func (.yield l) #[] #[]] W (DQ B J Jx pre d e W)) ?_ e
 clear e
 intro e ih d pre cs W hre hw hJ0 hB hd
 obtain ⟨k,n,s,t,A0,n0,m0,A1,n1,m1,A2,n2,m2,rfl⟩:=hre.shape
 obtain ⟨W5,hW5⟩:∃ W5,((((W.alloc (.cells #[.int .i64 k,.int .i64 n,.string s,.string t,.slice A0 n0 m0,.slice A1 n1 m1,.slice A2 n2 m2] 27)).alloc (.cells #[.int .i64 d] 3)).alloc (.cells #[.func (.func 63) #[] #[]] 90)).alloc (.cells #[.func (.yield l) #[] #[]] 122)).alloc (.cells #[.bool false] 4)=W5:=⟨_,rfl⟩
 have HE5:Hid (EB W5 W.heap.size (.int .i64 k) (.int .i64 n) (.string s) (.string t) (.slice A0 n0 m0) (.slice A1 n1 m1) (.slice A2 n2 m2)):=by
  rw [← hW5]
  exact ((((EB.new W _ _ _ _ _ _ _).kept (World.grownBy_alloc _ _ none) (by simp)).kept (World.grownBy_alloc _ _ none) (by simp)).kept (World.grownBy_alloc _ _ none) (by simp)).kept (World.grownBy_alloc _ _ none) (by simp)
 have HJ5:Hid (J pre W5):=Lib.hid (by rw [← hW5];exact hJ.alloc _ (hJ.alloc _ (hJ.alloc _ (hJ.alloc _ (hJ.alloc _ hJ0)))))
 have hg5:W.grownBy W5 none:=by rw [← hW5];exact grown_trans (grown_trans (grown_trans (grown_trans (World.grownBy_alloc _ _ _) (World.grownBy_alloc _ _ _)) (World.grownBy_alloc _ _ _)) (World.grownBy_alloc _ _ _)) (World.grownBy_alloc _ _ _)
 have HB5:Hid (B1 W5 (W.heap.size+1) 3 (.int .i64 d)):=by
  rw [← hW5]
  have:=B1.new (W.alloc (.cells #[.int .i64 k,.int .i64 n,.string s,.string t,.slice A0 n0 m0,.slice A1 n1 m1,.slice A2 n2 m2] 27)) 3 (.int .i64 d)
  rw [World.size_alloc] at this
  exact ((this.kept (World.grownBy_alloc _ _ none) (by simp)).kept (World.grownBy_alloc _ _ none) (by simp)).kept (World.grownBy_alloc _ _ none) (by simp)
 have HB6:Hid (B1 W5 (W.heap.size+1+1) 90 (.func (.func 63) #[] #[])):=by
  rw [← hW5]
  have:=B1.new ((W.alloc (.cells #[.int .i64 k,.int .i64 n,.string s,.string t,.slice A0 n0 m0,.slice A1 n1 m1,.slice A2 n2 m2] 27)).alloc (.cells #[.int .i64 d] 3)) 90 (.func (.func 63) #[] #[])
  rw [World.size_alloc,World.size_alloc] at this
  exact (this.kept (World.grownBy_alloc _ _ none) (by simp)).kept (World.grownBy_alloc _ _ none) (by simp)
 have HB7:Hid (B1 W5 (W.heap.size+1+1+1) 122 (.func (.yield l) #[] #[])):=by
  rw [← hW5]
  have:=B1.new (((W.alloc (.cells #[.int .i64 k,.int .i64 n,.string s,.string t,.slice A0 n0 m0,.slice A1 n1 m1,.slice A2 n2 m2] 27)).alloc (.cells #[.int .i64 d] 3)).alloc (.cells #[.func (.func 63) #[] #[]] 90)) 122 (.func (.yield l) #[] #[])
  rw [World.size_alloc,World.size_alloc,World.size_alloc] at this
  exact this.kept (World.grownBy_alloc _ _ none) (by simp)
 have HB8:Hid (B1 W5 (W.heap.size+1+1+1+1) 4 (.bool false)):=by
  rw [← hW5]
  have:=B1.new ((((W.alloc (.cells #[.int .i64 k,.int .i64 n,.string s,.string t,.slice A0 n0 m0,.slice A1 n1 m1,.slice A2 n2 m2] 27)).alloc (.cells #[.int .i64 d] 3)).alloc (.cells #[.func (.func 63) #[] #[]] 90)).alloc (.cells #[.func (.yield l) #[] #[]] 122)) 4 (.bool false)
  rw [World.size_alloc,World.size_alloc,World.size_alloc,World.size_alloc] at this
  exact this
 have e0:=HE5.out.c0
 have e1:=HE5.out.c1
 have e2:=HE5.out.c2
 have e3:=HE5.out.c3
 have e4:=HE5.out.c4
 have e5:=HE5.out.c5
 have e6:=HE5.out.c6
 have x5:=HB5.out.c
 have x6:=HB6.out.c
 have x7:=HB7.out.c
 have x8:=HB8.out.c
 have y8:=HB8.out.fr 0
 obtain ⟨fn,tmps,assign,body,hy,hR⟩:=hY (20 - 1) pre (d,⟨e,_,hre,trivial⟩) W5 HJ5.out
 have HR:=Lib.hid hR
 have HIH:=Lib.hid ih
 have HRep:=Lib.hid hre
 have hmf:∀ (fn:Fn) (first cap:Array Value) (w:World),(Instr.makeFunc fn first cap).run Tryz.prog w=.ok (.func fn first cap) w:=fun _ _ _ _=>rfl
 dsimp only at hy
 clear ih hR hJ0
 refine callsIn_wide (n:=20) |>.1 ?_
 refine callsIn_of_wp_marks Tryz.func93 rfl trivial ?_ rfl
 simp only [Tryz.ntmps93,List.size_toArray,List.length_cons,List.length_nil,Nat.reduceAdd,Nat.reduceSub,Array.replicate_succ,Array.replicate_zero,List.push_toArray,List.append_toArray,List.nil_append,List.cons_append]
 gi_wp2
 have HP5:Hid (KC P W W5):=Lib.hid (KC.of_grown hg5 (fun _ _=>by simp))
 have HF5:Hid (KeepsFrom B W W5):=Lib.hid (KeepsFrom.of_grownBy hg5 (fun j e=>by cases e))
 have hz5:W.heap.size+1+1+1+1 < W5.heap.size:=HB8.out.lt
 clear hg5 hW5 x5 x6 x7 x8 y8 e0 e1 e2 e3 e4 e5 e6
 refine HR.out.mono ?_
 rintro r W6 (⟨rfl,hJ6,hk6,hf6⟩ | ⟨rfl,hJx6,hk6,hf6⟩)
 ·have HJ6:=Lib.hid hJ6
  have HK6:=Lib.hid hk6
  have HF6:=Lib.hid (HF5.out.trans hf6)
  have e0:=(hk6.2 _ _ _ (hPB _ (by omega)) HE5.out.c0).1
  have e1:=(hk6.2 _ _ _ (hPB _ (by omega)) HE5.out.c1).1
  have e2:=(hk6.2 _ _ _ (hPB _ (by omega)) HE5.out.c2).1
  have e3:=(hk6.2 _ _ _ (hPB _ (by omega)) HE5.out.c3).1
  have e4:=(hk6.2 _ _ _ (hPB _ (by omega)) HE5.out.c4).1
  have e5:=(hk6.2 _ _ _ (hPB _ (by omega)) HE5.out.c5).1
  have e6:=(hk6.2 _ _ _ (hPB _ (by omega)) HE5.out.c6).1
  have x6:=(hk6.2 _ _ _ (hPB _ (by omega)) HB6.out.c).1
  clear hJ6 hk6 hf6
  gi_wp2_with (refine ⟨trivial,?_⟩;gi_at_call 63;refine ((callsIn_wide).2 (exprParts_any k n s t A0 n0 m0 A1 n1 m1 A2 n2 m2 _)).mono ?_;rintro r w' ⟨rfl,rfl⟩)
  have HP6:Hid (KC P W W6):=Lib.hid (HP5.out.trans HK6.out)
  have hz6:W5.heap.size≤W6.heap.size:=HK6.out.1
  have HCS:Hid (CellsAt (W6.alloc (.cells #[.int .i64 k,.int .i64 n,.string s,.string t,.slice A0 n0 m0,.slice A1 n1 m1,.slice A2 n2 m2] 27)) W6.heap.size 0 [.int .i64 k,.int .i64 n,.string s,.string t,.slice A0 n0 m0,.slice A1 n1 m1,.slice A2 n2 m2]):=Lib.hid (cellsAt_new W6 _ _)
  have hgA:=World.grownBy_alloc W6 (.cells #[.int .i64 k,.int .i64 n,.string s,.string t,.slice A0 n0 m0,.slice A1 n1 m1,.slice A2 n2 m2] 27) none
  have hzA:(W6.alloc (.cells #[.int .i64 k,.int .i64 n,.string s,.string t,.slice A0 n0 m0,.slice A1 n1 m1,.slice A2 n2 m2] 27)).heap.size=W6.heap.size+1:=World.size_alloc _ _
  refine range_x (n:=20) (by omega) (gf:=94) (lb:=#[.pointer (some ⟨W6.heap.size,0,none⟩)]) rfl (enters_of Tryz.func94 (by kernel_rfl) rfl)
   (encs:=fun x:Pt (·∈e.parts) P w0=>#[.agg x.cs.toArray]) (P:=P) (S:=fun ys=>ys.map Pt.x=e.parts) (Sp:=fun ps=>ps.map Pt.x <+: e.parts) ?seq (fun _=>rfl)
   (fun ps W'=>(∃ ys,ys.map fx=nodesL (d+1) (ps.map Pt.x)∧J (pre++(d,⟨e,_,HRep.out,trivial⟩) :: ys) W')∧KC P W5 W'∧KeepsFrom B W W'∧W6.heap.size+1≤W'.heap.size)
   (fun c ps W'=>c=.ret∧(∃ q,q.map fx <+: (d,e) :: nodesL (d+1) (ps.map Pt.x)∧Jx (pre++q) W')∧KC P W W'∧KeepsFrom B W W'∧W'.cell? ⟨W.heap.size+1+1+1+1,0,none⟩=some (.bool false))
   ?hI ?hIx ?h0 (fun x a' W'=>∃ Bx,W6.heap.size+1≤Bx∧CellsAt W' Bx 0 x.cs∧a'={ tmps:=#[.agg #[.int .i64 k,.int .i64 n,.string s,.string t,.slice A0 n0 m0,.slice A1 n1 m1,.slice A2 n2 m2],.int .i64 d,.func (.func 63) #[] #[],.func (.yield l) #[] #[],
    .pointer (some ⟨W.heap.size,0,none⟩),.pointer (some ⟨W.heap.size+1,0,none⟩),.pointer (some ⟨W.heap.size+1+1,0,none⟩),.pointer (some ⟨W.heap.size+1+1+1,0,none⟩),.pointer (some ⟨W.heap.size+1+1+1+1,0,none⟩),.pointer (some ⟨Bx,0,none⟩),
    .func (.yield l) #[] #[],.int .i64 d,.agg #[.int .i64 k,.int .i64 n,.string s,.string t,.slice A0 n0 m0,.slice A1 n1 m1,.slice A2 n2 m2],.bool true,.bool false,.func (.func 63) #[] #[],.agg #[.int .i64 k,.int .i64 n,.string s,.string t,.slice A0 n0 m0,.slice A1 n1 m1,.slice A2 n2 m2],
    .func (.func 94) #[] #[.pointer (some ⟨W6.heap.size,0,none⟩)],.agg x.cs.toArray,undef,undef,undef,undef,undef,undef,undef],defers:=[] })
   ?hAx ?assign ?body ?done ?stop
  case seq =>
   intro l2 J2 Jx2 W8 hg hJ2 hJx2 hY2 h02
   have hc8:KC P (W6.alloc (.cells #[.int .i64 k,.int .i64 n,.string s,.string t,.slice A0 n0 m0,.slice A1 n1 m1,.slice A2 n2 m2] 27)) W8:=KC.of_grown hg (fun _ _=>by simp)
   refine (parts_in Fence.wide (20 - 1) trivial rfl (by omega) l2 W6.heap.size P e w0 J2 Jx2 (fun ps A o h=>hJ2.alloc o h) (fun ps x W h=>YieldAt.mono (hY2 ps x W h) (fun r W' h=>?_)) W8 _ (HCS.out.keepC (hPB _ (by omega)) hc8) (hPB _ (by omega)) ((hw.trans HP6.out).trans ((KC.alloc _ _ _).trans hc8)) HRep.out h02).mono ?_
   ·rcases h with ⟨h1,h2,h3,_⟩ | ⟨h1,h2,_,_⟩
    ·exact .inl ⟨h1,h2,h3⟩
    ·exact .inr ⟨h1,h2⟩
   ·rintro r W' ⟨h1,(⟨ys,h2,h3,_⟩ | ⟨ps,h2,h3⟩)⟩
    ·exact ⟨h1,.inl ⟨ys,h2,h3⟩⟩
    ·exact ⟨h1,.inr ⟨ps,h2,h3⟩⟩
  case hI =>
   rintro ps A A' row ⟨⟨ys,hy1,hy2⟩,hc,hf,hz⟩ hg hr
   rw [hzA] at hr
   exact ⟨⟨ys,hy1,hJ _ _ _ _ hy2 hg (fun r e=>by have:=hr r e;omega)⟩,hc.own hg (fun r e=>by have:=hr r e;omega),keeps_own hf hg (fun r e=>by have:=hr r e;omega),Nat.le_trans hz hg.size⟩
  case hIx =>
   rintro c ps A A' row ⟨h1,⟨q,hq1,hq2⟩,hc,hf,h8⟩ hg hr
   rw [hzA] at hr
   refine ⟨h1,⟨q,hq1,hJx _ _ _ _ hq2 hg (fun r e=>by have:=hr r e;omega)⟩,hc.own hg (fun r e=>by have:=hr r e;omega),keeps_own hf hg (fun r e=>by have:=hr r e;omega),?_⟩
   exact (hc.own (A:=W) hg (fun r e=>by have:=hr r e;omega)).1 |> fun _=>by
    have hlt:W.heap.size+1+1+1+1 < A.heap.size:=by
     cases hh:A.heap[W.heap.size+1+1+1+1]? with
     | none=>unfold World.cell? at h8;simp [hh] at h8
     | some x=>exact (Array.getElem?_eq_some_iff.1 hh).1
    rw [cell_grown hg hlt (fun e=>by have:=hr _ e.symm;omega)];exact h8
  case h0 =>
   exact ⟨⟨[],by simp [nodesL],hJ.alloc _ HJ6.out⟩,HK6.out.trans (KC.alloc _ _ _),HF6.out.trans (KeepsFrom.of_grownBy hgA (fun j e=>by cases e)),by rw [hzA];exact Nat.le_refl _⟩
  case hAx =>
   intro x a'
   right
   rintro A l2 o o' ⟨Bx,h1,h2,h3⟩ hl ho
   exact ⟨Bx,h1,CellsAt.keepC (P:=fun _=>True) h2 trivial (KC.putObj o' hl ho),h3⟩
  case assign =>
   intro l2 ps x W' K hi hz hK
   obtain ⟨xx,xcs,xrep,xmem⟩:=x
   obtain ⟨xk,xn,xs,xt,B0,p0,r0,B1',p1,r1,B2,p2,r2,rfl⟩:=xrep.shape
   gi_wp2
   obtain ⟨⟨ys,h1,h2⟩,hc,hf,hz'⟩:=hi
   exact hK _ _ (KeepsFrom.of_grownBy (World.grownBy_alloc W' _ none) (fun j e=>by cases e)) (KC.alloc _ _ _) ⟨⟨ys,h1,hJ.alloc _ h2⟩,hc.trans (KC.alloc _ _ _),hf.trans (KeepsFrom.of_grownBy (World.grownBy_alloc W' _ none) (fun j e=>by cases e)),by rw [World.size_alloc];omega⟩ ⟨W'.heap.size,hz',cellsAt_new _ _ _,rfl⟩
  case body =>
   rintro l2 ps x a' W' hl ⟨rr,hrr⟩ ⟨⟨ys,hys,hJy⟩,hkc,hkf,hz⟩ ⟨Bx,hBx,hcx,rfl⟩
   obtain ⟨xx,xcs,xrep,xmem⟩:=x
   obtain ⟨xk,xn,xs,xt,B0,p0,r0,B1',p1,r1,B2,p2,r2,rfl⟩:=xrep.shape
   have d0:W'.cell? ⟨Bx,0,none⟩=some (.int .i64 xk):=hcx 0 _ rfl
   have d1:W'.cell? ⟨Bx,1,none⟩=some (.int .i64 xn):=hcx 1 _ rfl
   have d2:W'.cell? ⟨Bx,2,none⟩=some (.string xs):=hcx 2 _ rfl
   have d3:W'.cell? ⟨Bx,3,none⟩=some (.string xt):=hcx 3 _ rfl
   have d4:W'.cell? ⟨Bx,4,none⟩=some (.slice B0 p0 r0):=hcx 4 _ rfl
   have d5:W'.cell? ⟨Bx,5,none⟩=some (.slice B1' p1 r1):=hcx 5 _ rfl
   have d6:W'.cell? ⟨Bx,6,none⟩=some (.slice B2 p2 r2):=hcx 6 _ rfl
   have x5:=(hkc.2 _ _ _ (hPB _ (by omega)) HB5.out.c).1
   have x6':=(hkc.2 _ _ _ (hPB _ (by omega)) HB6.out.c).1
   have x7:=(hkc.2 _ _ _ (hPB _ (by omega)) HB7.out.c).1
   have hh:=hE_part xmem
   obtain ⟨hd1,hd2⟩:=hd
   have hd3:d≤1000000:=by omega
   have HC:=Lib.hid (HIH.out xx xmem (d+1) (pre++(d,⟨e,_,HRep.out,trivial⟩) :: ys) _ W' xrep (hw.trans (HP5.out.trans hkc)) hJy (by omega) ⟨by omega,by omega⟩)
   have HKC:=Lib.hid hkc
   have HKF:=Lib.hid hkf
   have HYS:=Lib.hid hys
   have h1n:1≤20 - 1 - 1:=by omega
   clear hcx hkc hkf hh hJy hys e0 e1 e2 e3 e4 e5 e6 x6
   gi_wp2_with (refine ⟨trivial,?_⟩;gi_at_call 93;refine (CallsIn.inRound l2 ((callsIn_wide).2 HC.out)).mono ?_;rintro r W3 (⟨rfl,zs,hz1,hJ3,hk3,hf3⟩ | ⟨rfl,q,hq1,hJx3,hk3,hf3⟩);all_goals (have hb8:=(HKC.out.trans hk3).2 _ _ _ (hPB _ (by omega)) HB8.out.c;obtain ⟨x8,y8⟩:=hb8;rw [HB8.out.fr] at y8))
   ·refine ⟨keeps_mono hf3 (by rw [hzA];omega),hk3,⟨ys++zs,?_,?_⟩,HKC.out.trans hk3,HKF.out.trans hf3,Nat.le_trans hz hk3.1⟩
    ·rw [List.map_append,List.map_append,HYS.out,hz1,List.map_cons,List.map_nil,nodesL_snoc]
    ·rw [List.append_assoc,List.cons_append] at hJ3;exact hJ3
   ·have hgs:=grown_set W3 ⟨W.heap.size+1+1+1+1,0,none⟩ (.bool false)
    have hsm:KC P W3 (W3.setCell ⟨W.heap.size+1+1+1+1,0,none⟩ (.bool false)):=KC.same x8
    have hso:=KeepsOthers.setCell W3 ⟨W.heap.size+1+1+1+1,0,none⟩ (.bool false)
    refine ⟨(keeps_mono hf3 (by rw [hzA];omega)).trans (hso.from _),hk3.trans hsm,rfl,⟨(d,⟨e,_,HRep.out,trivial⟩) :: ys++q,?_,?_⟩,HP5.out.trans (HKC.out.trans (hk3.trans hsm)),(HKF.out.trans hf3).trans (hso.from _),World.cell?_setCell_same' _ _ _ (by rw [x8];rfl)⟩
    ·rw [List.cons_append,List.map_cons,List.map_append,HYS.out,List.map_append,List.map_cons,List.map_nil,nodesL_snoc]
     exact List.cons_prefix_cons.2 ⟨rfl,(List.prefix_append_right_inj _).2 hq1⟩
    ·rw [List.append_assoc] at hJx3
     exact hJx _ _ _ _ hJx3 hgs (fun r h=>by have:W.heap.size+1+1+1+1=r:=Option.some.inj h;omega)
  case done =>
   rintro D ys W' hD hS ⟨⟨zs,hz1,hJz⟩,hkc,hkf,hz⟩ hKD
   obtain ⟨x8,y8⟩:=hkc.2 _ _ _ (hPB _ (by omega)) HB8.out.c
   rw [HB8.out.fr] at y8
   have HKC:=Lib.hid hkc
   have HKF:=Lib.hid hkf
   have HJz:=Lib.hid hJz
   clear hkc hkf hJz e0 e1 e2 e3 e4 e5 e6 x6
   gi_wp2
   have hgs:=grown_set W' ⟨W.heap.size+1+1+1+1,0,none⟩ (.bool true)
   have hKD':=(KeepsOthers.setCell W' ⟨W.heap.size+1+1+1+1,0,none⟩ (.bool true)).same D _ hKD rfl
   have hgp:=grownBy_putObj' (W'.setCell ⟨W.heap.size+1+1+1+1,0,none⟩ (.bool true)) D (.deferred none)
   have h8:(W'.setCell ⟨W.heap.size+1+1+1+1,0,none⟩ (.bool true)).cell? ⟨W.heap.size+1+1+1+1,0,none⟩=some (.bool true):=World.cell?_setCell_same' _ _ _ (by rw [x8];rfl)
   rw [hzA] at hD
   refine ⟨by simp,.inl ⟨_,_,rfl,run_takeDeferred hKD',?_⟩⟩
   refine ⟨_,res_desc rfl ((KC.putObj (P:=fun _=>True) (.deferred none) hKD' rfl).2 _ _ _ trivial h8).1 (.inl rfl),.inl ⟨rfl,(d,⟨e,_,HRep.out,trivial⟩) :: zs,?_,?_,?_,?_⟩⟩
   ·rw [List.map_cons,hz1,hS,nodesE_parts];rfl
   ·exact hJ _ _ _ _ (hJ _ _ _ _ HJz.out hgs (fun r h=>by have:W.heap.size+1+1+1+1=r:=Option.some.inj h;omega)) hgp (fun r h=>by have:D=r:=Option.some.inj h;omega)
   ·exact ((HP5.out.trans HKC.out).own hgs (fun r h=>by have:W.heap.size+1+1+1+1=r:=Option.some.inj h;omega)).own hgp (fun r h=>by have:D=r:=Option.some.inj h;omega)
   ·exact keeps_own (keeps_own HKF.out hgs (fun r h=>by have:W.heap.size+1+1+1+1=r:=Option.some.inj h;omega)) hgp (fun r h=>by have:D=r:=Option.some.inj h;omega)
  case stop =>
   rintro D c ps W' hD hSp ⟨rfl,⟨q,hq1,hq2⟩,hkc,hkf,h8⟩ hKD
   have HX:=Lib.hid hq2
   have HKC:=Lib.hid hkc
   have HKF:=Lib.hid hkf
   clear hkc hkf hq2 e0 e1 e2 e3 e4 e5 e6 x6
   gi_wp2
   have hgp:=grownBy_putObj' W' D (.deferred none)
   rw [hzA] at hD
   refine ⟨by simp,.inl ⟨_,_,rfl,run_takeDeferred hKD,?_⟩⟩
   refine ⟨_,res_desc rfl ((KC.putObj (P:=fun _=>True) (.deferred none) hKD rfl).2 _ _ _ trivial h8).1 (.inr rfl),.inr ⟨rfl,q,?_,?_,?_,?_⟩⟩
   ·rw [nodesE_parts]
    exact hq1.trans (List.cons_prefix_cons.2 ⟨rfl,nodesL_prefix _ hSp⟩)
   ·exact hJx _ _ _ _ HX.out hgp (fun r h=>by have:D=r:=Option.some.inj h;omega)
   ·exact HKC.out.own hgp (fun r h=>by have:D=r:=Option.some.inj h;omega)
   ·exact keeps_own HKF.out hgp (fun r h=>by have:D=r:=Option.some.inj h;omega)
 ·
  have HX6:=Lib.hid hJx6
  have HK6:=Lib.hid hk6
  have HF6:=Lib.hid (HF5.out.trans hf6)
  have x8:=hk6.2 _ _ _ (hPB _ (by omega)) HB8.out.c
  obtain ⟨x8,y8⟩:=x8
  rw [HB8.out.fr] at y8
  clear hJx6 hk6 hf6
  gi_wp2
  refine ⟨_,res_desc rfl (World.cell?_setCell_same' _ _ _ (by rw [x8];rfl)) (.inr rfl),.inr ⟨rfl,[(d,⟨e,_,HRep.out,trivial⟩)],?_,hJx _ _ _ _ HX6.out (grown_set W6 ⟨W.heap.size+1+1+1+1,0,none⟩ _) (fun r h=>by have:W.heap.size+1+1+1+1=r:=Option.some.inj h;omega),(HP5.out.trans HK6.out).own (grown_set W6 ⟨W.heap.size+1+1+1+1,0,none⟩ _) (fun r h=>by have:W.heap.size+1+1+1+1=r:=Option.some.inj h;omega),keeps_own HF6.out (grown_set W6 ⟨W.heap.size+1+1+1+1,0,none⟩ _) (fun r h=>by have:W.heap.size+1+1+1+1=r:=Option.some.inj h;omega)⟩⟩
  rw [nodesE_parts]
  exact ⟨_,rfl⟩
end Go.Proofs.YtpjabnemkmdobaaGreatDoor
namespace Go.Proofs.YtpjabnemkmdobaaGreatDoor
open Go.RowKit Go.Shelf
attribute [local go_sem] Oper.semAt_some
theorem room_wide (k:Nat):Fence.wide.room k:=fun d h=>by cases h
theorem round_wide {m m':Nat}{l:Nat}{f:FuncId}{tmps:Array Value}{assign body:Code}{w:World}{R:Ending→World→Prop}(h:RoundIn Fence.wide m Tryz.prog l f tmps assign body w R):RoundIn Fence.wide m' Tryz.prog l f tmps assign body w R :=
 ⟨h.1,fun c cs _=>h.2 c cs (room_wide _)⟩
theorem yield_wide {m m':Nat}{l:Nat}{args:Array Value}{W:World}{R:Ending→World→Prop}(h:YieldAt Fence.wide m Tryz.prog l args W R):YieldAt Fence.wide m' Tryz.prog l args W R:=by
 obtain ⟨fn,tmps,assign,body,hy,hR⟩:=h
 exact ⟨fn,tmps,assign,body,hy,round_wide hR⟩
set_option maxRecDepth 100000 in
set_option maxHeartbeats 400000 in
theorem nodes_any (k n:Int)(s t:ByteArray)(A0:Option Addr)(n0 c0:Nat)(A1:Option Addr)(n1 c1:Nat)(A2:Option Addr)(n2 c2:Nat)(w:World) :
  Calls Tryz.prog 62 #[.agg #[.int .i64 k,.int .i64 n,.string s,.string t,.slice A0 n0 c0,.slice A1 n1 c1,.slice A2 n2 c2],.func (.func 63) #[] #[]] w fun e w' =>
   e=.returned (.func (.func 92) #[] #[.pointer (some ⟨w.heap.size,0,none⟩),.pointer (some ⟨w.heap.size+1,0,none⟩)]) ∧
   w'=(w.alloc (.cells #[.int .i64 k,.int .i64 n,.string s,.string t,.slice A0 n0 c0,.slice A1 n1 c1,.slice A2 n2 c2] 27)).alloc (.cells #[.func (.func 63) #[] #[]] 90):=by
 have hmf:∀ (fn:Fn) (first cap:Array Value) (w:World),(Instr.makeFunc fn first cap).run Tryz.prog w=.ok (.func fn first cap) w:=fun _ _ _ _=>rfl
 go_enter Tryz.func62,Tryz.ntmps62
 go_wp2_with fail
 go_ret
 exact ⟨rfl,rfl⟩
set_option maxRecDepth 100000 in
set_option maxHeartbeats 1000000 in
theorem nodes_seq (b1 b2:Nat)(P:Nat→Prop)(w0:World)(e:Ex)(cs:List Value)(w:World)(hb1:CellsAt w b1 0 cs)(hb2:w.cell? ⟨b2,0,none⟩=some (.func (.func 63) #[] #[]))(hp1:P b1)(hp2:P b2)(hPB:∀ b,w.heap.size≤b→P b)
  (hre:RepE P w0 e cs) (hw:KC P w0 w) (hh:hE e≤900000) :
  SeqX 19 92 #[.pointer (some ⟨b1,0,none⟩),.pointer (some ⟨b2,0,none⟩)] (fun x:Int × Pt (fun _=>True) P w0=>#[.int .i64 x.1,.agg x.2.cs.toArray]) P (fun ys=>ys.map fx=nodesE 1 e) (fun ps=>ps.map fx <+: nodesE 1 e) w:=by
 intro l J Jx W hg hJ hJx hY h0
 have hc:KC P w W:=KC.of_grown hg (fun _ _=>by simp)
 have HD:=Lib.hid (descend_in l W.heap.size P w0 J Jx hJ hJx (fun b hb=>hPB b (Nat.le_trans hg.size hb)) (fun m pre x W1 h=>yield_wide (hY pre x W1 h)) e 1 [] cs W hre (hw.trans hc) h0 (Nat.le_refl _) ⟨by omega,by omega⟩)
 have hcs:=hb1.keepC hp1 hc
 obtain ⟨k,n,s,t,A0,n0,m0,A1,n1,m1,A2,n2,m2,rfl⟩:=hre.shape
 have d0:W.cell? ⟨b1,0,none⟩=some (.int .i64 k):=hcs 0 _ rfl
 have d1:W.cell? ⟨b1,1,none⟩=some (.int .i64 n):=hcs 1 _ rfl
 have d2:W.cell? ⟨b1,2,none⟩=some (.string s):=hcs 2 _ rfl
 have d3:W.cell? ⟨b1,3,none⟩=some (.string t):=hcs 3 _ rfl
 have d4:W.cell? ⟨b1,4,none⟩=some (.slice A0 n0 m0):=hcs 4 _ rfl
 have d5:W.cell? ⟨b1,5,none⟩=some (.slice A1 n1 m1):=hcs 5 _ rfl
 have d6:W.cell? ⟨b1,6,none⟩=some (.slice A2 n2 m2):=hcs 6 _ rfl
 have x2:=(hc.2 _ _ _ hp2 hb2).1
 clear hb1 hb2 hcs hre hY hJ hJx h0
 refine callsIn_of_wp Tryz.func92 rfl trivial ?_ rfl
 simp only [Tryz.ntmps92,List.size_toArray,List.length_cons,List.length_nil,Nat.reduceAdd,Nat.reduceSub,Array.replicate_succ,Array.replicate_zero,List.push_toArray,List.append_toArray,List.nil_append,List.cons_append]
 gi_wp2_with (refine ⟨trivial,?_⟩;gi_at_call 93;refine ((callsIn_wide).2 HD.out).mono ?_;rintro r W3 (⟨rfl,zs,hz1,hJ3,hk3,hf3⟩ | ⟨rfl,q,hq1,hJx3,hk3,hf3⟩))
 ·go_end0
  exact ⟨⟨_,rfl⟩,.inl ⟨zs,hz1,hJ3⟩⟩
 ·go_end0
  exact ⟨⟨_,rfl⟩,.inr ⟨q,hq1,hJx3⟩⟩
end Go.Proofs.YtpjabnemkmdobaaGreatDoor
namespace Go.Proofs.YtpjabnemkmdobaaGreatDoor
open Go.RowKit Go.Shelf
attribute [local go_sem] Oper.semAt_some
def measF:Int→Int→List (Int × Ex)→Int × Int
 | s,m,[]=>(s,m)
 | s,m,(d,_) :: r=>if 3000 < s+1∨200 < max m d then (s+1,max m d) else measF (s+1) (max m d) r
theorem res_meas {tmps:Array Value}{w:World}{g1 g2:Nat}{a b:Int}(h2:tmps.getD 2 undef=.pointer (some ⟨g1,0,none⟩))(h3:tmps.getD 3 undef=.pointer (some ⟨g2,0,none⟩))(c1:w.cell? ⟨g1,0,none⟩=some (.int .i64 a))(c2:w.cell? ⟨g2,0,none⟩=some (.int .i64 b)) :
  (results Tryz.f61 tmps).run Tryz.prog w=.ok (.tuple #[.int .i64 a,.int .i64 b]) w:=by
 have h2':tmps[2]?.getD undef=.pointer (some ⟨g1,0,none⟩):=by simpa using h2
 have h3':tmps[3]?.getD undef=.pointer (some ⟨g2,0,none⟩):=by simpa using h3
 simp [results,Tryz.results61,go_sem,h2',h3',c1,c2]
set_option maxRecDepth 100000 in
set_option maxHeartbeats 4000000 in
theorem measure_any (b1 b2:Nat)(e:Ex)(cs:List Value)(w:World)(hb1:CellsAt w b1 0 cs)(hb2:w.cell? ⟨b2,0,none⟩=some (.func (.func 63) #[] #[]))(hl:b1 < w.heap.size∧b2 < w.heap.size)
  (hre:RepE (fun b=>b < w.heap.size) w e cs) (hh:hE e≤900000) :
  Calls Tryz.prog 61 #[.func (.func 92) #[] #[.pointer (some ⟨b1,0,none⟩),.pointer (some ⟨b2,0,none⟩)]] w fun r w' =>
   r=.returned (.tuple #[.int .i64 (measF 0 0 (nodesE 1 e)).1,.int .i64 (measF 0 0 (nodesE 1 e)).2])∧Below w.heap.size w w':=by
 obtain ⟨W1,hW1⟩:∃ W1,(w.alloc (.cells #[.int .i64 0] 3)).alloc (.cells #[.int .i64 0] 3)=W1:=⟨_,rfl⟩
 have hg1:∀ row,w.grownBy W1 row:=fun row=>by rw [← hW1];exact grown_trans (World.grownBy_alloc _ _ _) (World.grownBy_alloc _ _ _)
 have hz1:W1.heap.size=w.heap.size+2:=by rw [← hW1];simp
 have hc1:KC (fun _=>True) w W1:=KC.of_grown (hg1 none) (fun _ _=>by simp)
 have hB1:Below w.heap.size w W1:=by rw [← hW1];exact ((Below.refl _ _).alloc (Nat.le_refl _) _).alloc (by simp) _
 have HS1:Hid (B1 W1 w.heap.size 3 (.int .i64 0)):=by rw [← hW1];exact (B1.new w 3 _).kept (World.grownBy_alloc _ _ none) (by simp)
 have HS2:Hid (B1 W1 (w.heap.size+1) 3 (.int .i64 0)):=by
  rw [← hW1]
  have:=B1.new (w.alloc (.cells #[.int .i64 0] 3)) 3 (.int .i64 0)
  rwa [World.size_alloc] at this
 have hseq:=nodes_seq b1 b2 (fun b=>b≠w.heap.size∧b≠w.heap.size+1) W1 e cs W1 (hb1.keepC (P:=fun _=>True) trivial hc1) ((hc1.2 _ _ _ trivial hb2).1) ⟨by omega,by omega⟩ ⟨by omega,by omega⟩ (fun b hb=>⟨by omega,by omega⟩) ((hre.keepC (KC.of_grown (hg1 none) (fun _ _=>by simp))).weaken (fun b hb=>⟨by omega,by omega⟩)) (KC.refl _ _) hh
 have HSeq:=Lib.hid hseq
 clear hseq hb1 hb2 hre hh hc1
 refine callsIn_wide (n:=20) |>.1 ?_
 refine callsIn_of_wp_marks Tryz.func61 rfl trivial ?_ rfl
 simp only [Tryz.ntmps61,List.size_toArray,List.length_cons,List.length_nil,Nat.reduceAdd,Nat.reduceSub,Array.replicate_succ,Array.replicate_zero,List.push_toArray,List.append_toArray,List.nil_append,List.cons_append]
 gi_wp2
 clear hW1
 refine range_x (n:=20) (by omega) (gf:=92) (lb:=#[.pointer (some ⟨b1,0,none⟩),.pointer (some ⟨b2,0,none⟩)]) rfl (enters_of Tryz.func92 (by kernel_rfl) rfl) HSeq.out (fun _=>rfl)
  (fun ps W'=>∃ s m:Int,0≤s∧s≤3000∧B1 W' w.heap.size 3 (.int .i64 s)∧B1 W' (w.heap.size+1) 3 (.int .i64 m)∧Below w.heap.size w W'∧∀ rest,measF 0 0 (ps.map fx++rest)=measF s m rest)
  (fun c ps W'=>c=.exit 0∧∃ s m:Int,B1 W' w.heap.size 3 (.int .i64 s)∧B1 W' (w.heap.size+1) 3 (.int .i64 m)∧Below w.heap.size w W'∧∀ rest,measF 0 0 (ps.map fx++rest)=(s,m))
  ?hI ?hIx ?h0 (fun x a' _=>a'={ tmps:=#[.func (.func 92) #[] #[.pointer (some ⟨b1,0,none⟩),.pointer (some ⟨b2,0,none⟩)],undef,.pointer (some ⟨w.heap.size,0,none⟩),.pointer (some ⟨w.heap.size+1,0,none⟩),.int .i64 x.1,
   .func (.func 92) #[] #[.pointer (some ⟨b1,0,none⟩),.pointer (some ⟨b2,0,none⟩)],.int .i64 x.1,.agg x.2.cs.toArray,undef,undef,undef,undef,undef,undef,undef,undef,undef,undef,undef,undef,undef],defers:=[] })
  (fun x a'=>.inr fun _ _ _ _ h _ _=>h) ?assign ?body ?done ?stop
 case hI =>
  rintro ps A A' row ⟨s,m,h0,h1,h2,h3,h4,h5⟩ hg hr
  exact ⟨s,m,h0,h1,h2.kept hg (fun e=>by have:=hr _ e.symm;omega),h3.kept hg (fun e=>by have:=hr _ e.symm;omega),h4.grown hg h4.size (fun k e=>by have:=hr _ e;omega),h5⟩
 case hIx =>
  rintro c ps A A' row ⟨hc,s,m,h2,h3,h4,h5⟩ hg hr
  exact ⟨hc,s,m,h2.kept hg (fun e=>by have:=hr _ e.symm;omega),h3.kept hg (fun e=>by have:=hr _ e.symm;omega),h4.grown hg h4.size (fun k e=>by have:=hr _ e;omega),h5⟩
 case h0=>exact ⟨0,0,by omega,by omega,HS1.out,HS2.out,hB1,fun rest=>rfl⟩
 case assign =>
  intro l2 ps x W' K hi hz hK
  gi_wp2
  exact hK _ _ (KeepsFrom.refl _ _) (KC.refl _ _) hi rfl
 case body =>
  rintro l2 ps ⟨d,xp⟩ a' W' hl2 ⟨rr,hrr⟩ ⟨s,m,hs0,hs1,hb1,hb2,hB,hm⟩ rfl
  have c1:=hb1.c
  have f1:=hb1.fr 0
  have c2:=hb2.c
  have f2:=hb2.fr 0
  have HK1:=Lib.hid hb1
  have HK2:=Lib.hid hb2
  have HB:=Lib.hid hB
  have HM:=Lib.hid hm
  clear hb1 hb2 hB hm
  have g1:=grown_set W' ⟨w.heap.size,0,none⟩ (.int .i64 (s+1))
  have g2:=grown_set (W'.setCell ⟨w.heap.size,0,none⟩ (.int .i64 (s+1))) ⟨w.heap.size+1,0,none⟩ (.int .i64 (max m d))
  have k1:=(KeepsOthers.setCell W' ⟨w.heap.size,0,none⟩ (.int .i64 (s+1))).trans (KeepsOthers.setCell _ ⟨w.heap.size+1,0,none⟩ (.int .i64 (max m d)))
  have HX1:=Lib.hid (k1.from W1.heap.size)
  have HX2:=Lib.hid (k1.from (w.heap.size+2))
  have HX3:Hid (KC (fun b=>b≠w.heap.size∧b≠w.heap.size+1) W' _):=Lib.hid ((KC.of_grown g1 (fun b hb e=>hb.1 (Option.some.inj e))).trans (KC.of_grown g2 (fun b hb e=>hb.2 (Option.some.inj e))))
  have HX4:=Lib.hid ((HK1.out.set (.int .i64 (s+1))).kept g2 (by simp))
  have HX5:=Lib.hid ((HK2.out.kept g1 (by simp)).set (.int .i64 (max m d)))
  have HX6:=Lib.hid ((HB.out.grown g1 HB.out.size (fun k e=>by have:w.heap.size=k:=Option.some.inj e;omega)).grown g2 (by have:=HB.out.size;simp [World.setCell];omega) (fun k e=>by have:w.heap.size+1=k:=Option.some.inj e;omega))
  have HY1:Hid (3000 < s+1∨200 < max m d→∀ rest,measF 0 0 ((ps++[(d,xp)]).map fx++rest)=(s+1,max m d)):=Lib.hid (fun h rest=>by
   rw [List.map_append,List.append_assoc,HM.out]
   show measF s m ((d,xp.x) :: rest)=_
   rw [measF,if_pos h])
  have HY2:Hid (¬ (3000 < s+1∨200 < max m d)→∀ rest,measF 0 0 ((ps++[(d,xp)]).map fx++rest)=measF (s+1) (max m d) rest):=Lib.hid (fun h rest=>by
   rw [List.map_append,List.append_assoc,HM.out]
   show measF s m ((d,xp.x) :: rest)=_
   rw [measF,if_neg h])
  clear g1 g2 k1
  gi_wp2
  ·rename_i hq
   exact ⟨HX1.out,HX3.out,rfl,s+1,max m d,HX4.out,HX5.out,HX6.out,HY1.out hq⟩
  ·rename_i hq
   exact ⟨HX1.out,HX3.out,s+1,max m d,by omega,by omega,HX4.out,HX5.out,HX6.out,HY2.out (by omega)⟩
  ·rename_i hq
   exact ⟨HX2.out,HX3.out,rfl,s+1,HX4.out,max m d,HX5.out,HX6.out,HY1.out (.inl hq)⟩
 case done =>
  rintro D ys W' hD hS ⟨s,m,h0,h1,h2,h3,h4,h5⟩ hKD
  have c1:=h2.c
  have f1:=h2.fr 0
  have c2:=h3.c
  have f2:=h3.fr 0
  have HV:Hid (measF 0 0 (nodesE 1 e)=(s,m)):=Lib.hid (by have:=h5 [];rw [List.append_nil,hS] at this;rw [this];rfl)
  have g1:=grown_set W' ⟨w.heap.size,0,none⟩ (.int .i64 s)
  have g2:=grown_set (W'.setCell ⟨w.heap.size,0,none⟩ (.int .i64 s)) ⟨w.heap.size+1,0,none⟩ (.int .i64 m)
  have g3:=grown_drewN ((W'.setCell ⟨w.heap.size,0,none⟩ (.int .i64 s)).setCell ⟨w.heap.size+1,0,none⟩ (.int .i64 m)) 1 none
  have hKD':=(((KeepsOthers.setCell W' ⟨w.heap.size,0,none⟩ (.int .i64 s)).trans (KeepsOthers.setCell _ ⟨w.heap.size+1,0,none⟩ (.int .i64 m))).trans (KeepsOthers.drew _)).same D _ hKD rfl
  have q1:=(((h2.set (.int .i64 s)).kept g2 (by simp)).kept g3 (by simp)).c
  have q2:=(((h3.kept g1 (by simp)).set (.int .i64 m)).kept g3 (by simp)).c
  have hsz:=h4.size
  have HBz:=Lib.hid (((h4.grown g1 h4.size (fun k e=>by have:w.heap.size=k:=Option.some.inj e;omega)).grown g2 (by simp [World.setCell];omega) (fun k e=>by have:w.heap.size+1=k:=Option.some.inj e;omega)).grown g3 (by simp [World.setCell];omega) (fun k e=>by cases e))
  have HQ1:=Lib.hid q1
  have HQ2:=Lib.hid q2
  have HKD:=Lib.hid hKD'
  clear q1 q2 g1 g2 g3 hKD'
  gi_wp2
  gi_region
  all_goals gi_wp2
  refine ⟨by simp,.inl ⟨_,_,rfl,run_takeDeferred HKD.out,?_⟩⟩
  refine ⟨_,res_meas rfl rfl ((KC.putObj (P:=fun _=>True) (.deferred none) HKD.out rfl).2 _ _ _ trivial HQ1.out).1 ((KC.putObj (P:=fun _=>True) (.deferred none) HKD.out rfl).2 _ _ _ trivial HQ2.out).1,by rw [HV.out],?_⟩
  refine HBz.out.grown (grownBy_putObj' _ D (.deferred none)) HBz.out.size (fun k e=>?_)
  have:D=k:=Option.some.inj e
  omega
 case stop =>
  rintro D c ps W' hD hSp ⟨rfl,s,m,h2,h3,h4,h5⟩ hKD
  have c1:=h2.c
  have f1:=h2.fr 0
  have c2:=h3.c
  have f2:=h3.fr 0
  have HV:Hid (measF 0 0 (nodesE 1 e)=(s,m)):=Lib.hid (by obtain ⟨rest,hrest⟩:=hSp;rw [← hrest];exact h5 rest)
  have g1:=grown_set W' ⟨w.heap.size,0,none⟩ (.int .i64 s)
  have g2:=grown_set (W'.setCell ⟨w.heap.size,0,none⟩ (.int .i64 s)) ⟨w.heap.size+1,0,none⟩ (.int .i64 m)
  have g3:=grown_drewN ((W'.setCell ⟨w.heap.size,0,none⟩ (.int .i64 s)).setCell ⟨w.heap.size+1,0,none⟩ (.int .i64 m)) 1 none
  have hKD':=(((KeepsOthers.setCell W' ⟨w.heap.size,0,none⟩ (.int .i64 s)).trans (KeepsOthers.setCell _ ⟨w.heap.size+1,0,none⟩ (.int .i64 m))).trans (KeepsOthers.drew _)).same D _ hKD rfl
  have q1:=(((h2.set (.int .i64 s)).kept g2 (by simp)).kept g3 (by simp)).c
  have q2:=(((h3.kept g1 (by simp)).set (.int .i64 m)).kept g3 (by simp)).c
  have hsz:=h4.size
  have HBz:=Lib.hid (((h4.grown g1 h4.size (fun k e=>by have:w.heap.size=k:=Option.some.inj e;omega)).grown g2 (by simp [World.setCell];omega) (fun k e=>by have:w.heap.size+1=k:=Option.some.inj e;omega)).grown g3 (by simp [World.setCell];omega) (fun k e=>by cases e))
  have HQ1:=Lib.hid q1
  have HQ2:=Lib.hid q2
  have HKD:=Lib.hid hKD'
  clear q1 q2 g1 g2 g3 hKD'
  gi_wp2
  gi_region
  all_goals gi_wp2
  refine ⟨by simp,.inl ⟨_,_,rfl,run_takeDeferred HKD.out,?_⟩⟩
  refine ⟨_,res_meas rfl rfl ((KC.putObj (P:=fun _=>True) (.deferred none) HKD.out rfl).2 _ _ _ trivial HQ1.out).1 ((KC.putObj (P:=fun _=>True) (.deferred none) HKD.out rfl).2 _ _ _ trivial HQ2.out).1,by rw [HV.out],?_⟩
  refine HBz.out.grown (grownBy_putObj' _ D (.deferred none)) HBz.out.size (fun k e=>?_)
  have:D=k:=Option.some.inj e
  omega
end Go.Proofs.YtpjabnemkmdobaaGreatDoor
namespace Go.Proofs.YtpjabnemkmdobaaGreatDoor
open Go.RowKit Go.Shelf
attribute [local go_sem] Oper.semAt_some
def firstF (chk:Ex→Int):List (Int × Ex)→Int
 | []=>0
 | (_,x) :: r=>if chk x=0 then firstF chk r else chk x
def ChkSays (chk:Ex→Int):Prop:=∀ (P:Nat→Prop) (x:Ex) (k n:Int) (s t:ByteArray) (A0:Option Addr) (n0 c0:Nat) (A1:Option Addr) (n1 c1:Nat) (A2:Option Addr) (n2 c2:Nat) (w:World),Uses w→RepE P w x [.int .i64 k,.int .i64 n,.string s,.string t,.slice A0 n0 c0,.slice A1 n1 c1,.slice A2 n2 c2] →
 Calls Tryz.prog 65 #[.agg #[.int .i64 k,.int .i64 n,.string s,.string t,.slice A0 n0 c0,.slice A1 n1 c1,.slice A2 n2 c2]] w fun e w'=>e=.returned (.int .i64 (chk x))∧Below w.heap.size w w'
theorem res_first {tmps:Array Value}{w:World}{g1:Nat}{a:Int}(h2:tmps.getD 4 undef=.pointer (some ⟨g1,0,none⟩))(c1:w.cell? ⟨g1,0,none⟩=some (.int .i64 a)) :
  (results Tryz.f64 tmps).run Tryz.prog w=.ok (.int .i64 a) w:=by
 have h2':tmps[4]?.getD undef=.pointer (some ⟨g1,0,none⟩):=by simpa using h2
 simp [results,Tryz.results64,go_sem,h2',c1]
set_option maxRecDepth 100000 in
set_option maxHeartbeats 4000000 in
theorem firstError_any (chk:Ex→Int)(HCk:Hid (ChkSays chk))(b1 b2:Nat)(e:Ex)(cs:List Value)(w:World)(hb1:CellsAt w b1 0 cs)(hb2:w.cell? ⟨b2,0,none⟩=some (.func (.func 63) #[] #[]))(hl:b1 < w.heap.size∧b2 < w.heap.size)
  (hre:RepE (fun b=>b < w.heap.size) w e cs) (hh:hE e≤900000) (hu:Uses w) :
  Calls Tryz.prog 64 #[.func (.func 92) #[] #[.pointer (some ⟨b1,0,none⟩),.pointer (some ⟨b2,0,none⟩)],.func (.func 65) #[] #[]] w fun r w' =>
   r=.returned (.int .i64 (firstF chk (nodesE 1 e)))∧Below w.heap.size w w':=by
 obtain ⟨W1,hW1⟩:∃ W1,(w.alloc (.cells #[.func (.func 65) #[] #[]] 33)).alloc (.cells #[.int .i64 0] 30)=W1:=⟨_,rfl⟩
 have hg1:∀ row,w.grownBy W1 row:=fun row=>by rw [← hW1];exact grown_trans (World.grownBy_alloc _ _ _) (World.grownBy_alloc _ _ _)
 have hz1:W1.heap.size=w.heap.size+2:=by rw [← hW1];simp
 have hc1:KC (fun _=>True) w W1:=KC.of_grown (hg1 none) (fun _ _=>by simp)
 have hB1:Below w.heap.size w W1:=by rw [← hW1];exact ((Below.refl _ _).alloc (Nat.le_refl _) _).alloc (by simp) _
 have HS1:Hid (B1 W1 w.heap.size 33 (.func (.func 65) #[] #[])):=by rw [← hW1];exact (B1.new w _ _).kept (World.grownBy_alloc _ _ none) (by simp)
 have HS2:Hid (B1 W1 (w.heap.size+1) 30 (.int .i64 0)):=by
  rw [← hW1]
  have:=B1.new (w.alloc (.cells #[.func (.func 65) #[] #[]] 33)) 30 (.int .i64 0)
  rwa [World.size_alloc] at this
 have hseq:=nodes_seq b1 b2 (fun b=>b≠w.heap.size+1) W1 e cs W1 (hb1.keepC (P:=fun _=>True) trivial hc1) ((hc1.2 _ _ _ trivial hb2).1) (by omega) (by omega) (fun b hb=>by omega) ((hre.keepC (KC.of_grown (hg1 none) (fun _ _=>by simp))).weaken (fun b hb=>by omega)) (KC.refl _ _) hh
 have HSeq:=Lib.hid hseq
 have HUse:=Lib.hid hu
 clear hu hseq hb1 hb2 hre hh hc1
 refine callsIn_wide (n:=20) |>.1 ?_
 refine callsIn_of_wp_marks Tryz.func64 rfl trivial ?_ rfl
 simp only [Tryz.ntmps64,List.size_toArray,List.length_cons,List.length_nil,Nat.reduceAdd,Nat.reduceSub,Array.replicate_succ,Array.replicate_zero,List.push_toArray,List.append_toArray,List.nil_append,List.cons_append]
 gi_wp2
 clear hW1
 refine range_x (n:=20) (by omega) (gf:=92) (lb:=#[.pointer (some ⟨b1,0,none⟩),.pointer (some ⟨b2,0,none⟩)]) rfl (enters_of Tryz.func92 (by kernel_rfl) rfl) HSeq.out (fun _=>rfl)
  (fun ps W'=>B1 W' (w.heap.size+1) 30 (.int .i64 0)∧KC (fun b=>b≠w.heap.size+1) W1 W'∧Below w.heap.size w W'∧∀ rest,firstF chk (ps.map fx++rest)=firstF chk rest)
  (fun c ps W'=>c=.ret∧∃ v:Int,B1 W' (w.heap.size+1) 30 (.int .i64 v)∧Below w.heap.size w W'∧∀ rest,firstF chk (ps.map fx++rest)=v)
  ?hI ?hIx ?h0 (fun x a' W'=>∃ Bx,W1.heap.size≤Bx∧CellsAt W' Bx 0 x.2.cs∧a'={ tmps:=#[.func (.func 92) #[] #[.pointer (some ⟨b1,0,none⟩),.pointer (some ⟨b2,0,none⟩)],.func (.func 65) #[] #[],undef,.pointer (some ⟨w.heap.size,0,none⟩),.pointer (some ⟨w.heap.size+1,0,none⟩),undef,.pointer (some ⟨Bx,0,none⟩),undef,
   .func (.func 92) #[] #[.pointer (some ⟨b1,0,none⟩),.pointer (some ⟨b2,0,none⟩)],.int .i64 x.1,.agg x.2.cs.toArray,undef,undef,undef,undef,undef,undef],defers:=[] })
  ?hAx ?assign ?body ?done ?stop
 case hI =>
  rintro ps A A' row ⟨h1,h2,h3,h4⟩ hg hr
  exact ⟨h1.kept hg (fun e=>by have:=hr _ e.symm;omega),h2.own hg (fun r e=>hr r e),h3.grown hg h3.size (fun k e=>by have:=hr _ e;omega),h4⟩
 case hIx =>
  rintro c ps A A' row ⟨hc,v,h1,h3,h4⟩ hg hr
  exact ⟨hc,v,h1.kept hg (fun e=>by have:=hr _ e.symm;omega),h3.grown hg h3.size (fun k e=>by have:=hr _ e;omega),h4⟩
 case h0=>exact ⟨HS2.out,KC.refl _ _,hB1,fun rest=>rfl⟩
 case hAx =>
  intro x a'
  right
  rintro A l2 o o' ⟨Bx,h1,h2,h3⟩ hl ho
  exact ⟨Bx,h1,CellsAt.keepC (P:=fun _=>True) h2 trivial (KC.putObj o' hl ho),h3⟩
 case assign =>
  rintro l2 ps ⟨d,xx,xcs,xrep,xmem⟩ W' K ⟨h1,h2,h3,h4⟩ hz hK
  obtain ⟨xk,xn,xs,xt,A0,p0,r0,A1,p1,r1,A2,p2,r2,rfl⟩:=xrep.shape
  gi_wp2
  exact hK _ _ (KeepsFrom.of_grownBy (World.grownBy_alloc W' _ none) (fun j e=>by cases e)) (KC.alloc _ _ _) ⟨h1.kept (World.grownBy_alloc _ _ none) (by simp),h2.trans (KC.alloc _ _ _),h3.alloc h3.size _,h4⟩ ⟨W'.heap.size,hz,cellsAt_new _ _ _,rfl⟩
 case body =>
  rintro l2 ps ⟨d,xx,xcs,xrep,xmem⟩ a' W' hl2 ⟨rr,hrr⟩ ⟨h1,h2,h3,h4⟩ ⟨Bx,hBx,hcx,rfl⟩
  obtain ⟨xk,xn,xs,xt,A0,p0,r0,A1,p1,r1,A2,p2,r2,rfl⟩:=xrep.shape
  have d0:W'.cell? ⟨Bx,0,none⟩=some (.int .i64 xk):=hcx 0 _ rfl
  have d1:W'.cell? ⟨Bx,1,none⟩=some (.int .i64 xn):=hcx 1 _ rfl
  have d2:W'.cell? ⟨Bx,2,none⟩=some (.string xs):=hcx 2 _ rfl
  have d3:W'.cell? ⟨Bx,3,none⟩=some (.string xt):=hcx 3 _ rfl
  have d4:W'.cell? ⟨Bx,4,none⟩=some (.slice A0 p0 r0):=hcx 4 _ rfl
  have d5:W'.cell? ⟨Bx,5,none⟩=some (.slice A1 p1 r1):=hcx 5 _ rfl
  have d6:W'.cell? ⟨Bx,6,none⟩=some (.slice A2 p2 r2):=hcx 6 _ rfl
  have x3:=(h2.2 _ _ _ (by omega) HS1.out.c).1
  have HC:=Lib.hid (HCk.out _ xx xk xn xs xt A0 p0 r0 A1 p1 r1 A2 p2 r2 W' (HUse.out.below h3) (xrep.keepC h2))
  obtain ⟨v,hv⟩:∃ v,v=chk xx:=⟨_,rfl⟩
  rw [← hv] at HC
  have HV:=Lib.hid hv
  have HB:=Lib.hid h1
  have HK:=Lib.hid h2
  have HW:=Lib.hid h3
  have H4:=Lib.hid h4
  have h1n:1≤20 - 1 - 1:=by omega
  clear hcx h1 h2 h3 h4 hv
  by_cases hq:v=0
  ·subst hq
   gi_wp2_with (refine ⟨trivial,?_⟩;gi_at_call 65;refine (CallsIn.inRound l2 ((callsIn_wide).2 HC.out)).mono ?_;rintro r W3 ⟨rfl,hb⟩)
   have hg:=grown_below hb none
   refine ⟨KeepsFrom.of_grownBy hg (fun j e=>by cases e),KC.of_grown hg (fun _ _=>by simp),HB.out.kept hg (by simp),HK.out.trans (KC.of_grown hg (fun _ _=>by simp)),HW.out.grown hg HW.out.size (fun j e=>by cases e),fun rest=>?_⟩
   rw [List.map_append,List.append_assoc,H4.out]
   show firstF chk ((d,xx) :: rest)=_
   rw [firstF,if_pos HV.out.symm]
  ·have hqb:(v == 0)=false:=beq_eq_false_iff_ne.2 hq
   gi_wp2_with (refine ⟨trivial,?_⟩;gi_at_call 65;refine (CallsIn.inRound l2 ((callsIn_wide).2 HC.out)).mono ?_;rintro r W3 ⟨rfl,hb⟩;have HB3:=Lib.hid (HB.out.kept (grown_below hb none) (by simp));have c4:=HB3.out.c;have f4:=HB3.out.fr 0)
   have hg:=grown_below hb none
   have hg2:=grown_set W3 ⟨w.heap.size+1,0,none⟩ (.int .i64 v)
   refine ⟨(KeepsFrom.of_grownBy hg (fun j e=>by cases e)).trans ((KeepsOthers.setCell W3 ⟨w.heap.size+1,0,none⟩ (.int .i64 v)).from _),(KC.of_grown hg (fun _ _=>by simp)).trans (KC.of_grown hg2 (fun b hb e=>hb (Option.some.inj e))),rfl,v,HB3.out.set _,(HW.out.grown hg HW.out.size (fun j e=>by cases e)).grown hg2 (Nat.le_trans HW.out.size hg.size) (fun k e=>by have:w.heap.size+1=k:=Option.some.inj e;omega),fun rest=>?_⟩
   rw [List.map_append,List.append_assoc,H4.out]
   show firstF chk ((d,xx) :: rest)=_
   rw [firstF,if_neg (by rw [← HV.out];exact hq)]
   exact HV.out.symm
 case done =>
  rintro D ys W' hD hS ⟨h1,h2,h3,h4⟩ hKD
  have c4:=h1.c
  have f4:=h1.fr 0
  gi_wp2
  have hg:=grown_set W' ⟨w.heap.size+1,0,none⟩ (.int .i64 0)
  have hKD':=(KeepsOthers.setCell W' ⟨w.heap.size+1,0,none⟩ (.int .i64 0)).same D _ hKD rfl
  have hB:=h3.grown hg h3.size (fun k e=>by have:w.heap.size+1=k:=Option.some.inj e;omega)
  refine ⟨by simp,.inl ⟨_,_,rfl,run_takeDeferred hKD',?_⟩⟩
  refine ⟨_,res_first rfl ((KC.putObj (P:=fun _=>True) (.deferred none) hKD' rfl).2 _ _ _ trivial (h1.set (.int .i64 0)).c).1,?_,hB.grown (grownBy_putObj' _ D (.deferred none)) hB.size (fun k e=>by have:D=k:=Option.some.inj e;omega)⟩
  have:=h4 []
  rw [List.append_nil,hS] at this
  rw [this]
  rfl
 case stop =>
  rintro D c ps W' hD hSp ⟨rfl,v,h1,h3,h4⟩ hKD
  gi_wp2
  refine ⟨by simp,.inl ⟨_,_,rfl,run_takeDeferred hKD,?_⟩⟩
  refine ⟨_,res_first rfl ((KC.putObj (P:=fun _=>True) (.deferred none) hKD rfl).2 _ _ _ trivial h1.c).1,?_,h3.grown (grownBy_putObj' _ D (.deferred none)) h3.size (fun k e=>by have:D=k:=Option.some.inj e;omega)⟩
  obtain ⟨rest,hrest⟩:=hSp
  rw [← hrest,h4 rest]
end Go.Proofs.YtpjabnemkmdobaaGreatDoor
namespace Go.Proofs.YtpjabnemkmdobaaGreatDoor
open Go.RowKit
def msd (chk:Ex→Int)(e:Ex):Int × Int × Int :=
 if 3000 < (measF 0 0 (nodesE 1 e)).1∨200 < (measF 0 0 (nodesE 1 e)).2 then (0,0,3) else if firstF chk (nodesE 1 e)=0 then ((measF 0 0 (nodesE 1 e)).1,(measF 0 0 (nodesE 1 e)).2,0) else (0,0,firstF chk (nodesE 1 e))
set_option maxRecDepth 100000 in
set_option maxHeartbeats 2000000 in
theorem measured_any (chk:Ex→Int)(HCk:Hid (ChkSays chk))(P:Nat→Prop)(e:Ex)(k n:Int)(s t:ByteArray)(A0:Option Addr)(n0 c0:Nat)(A1:Option Addr)(n1 c1:Nat)(A2:Option Addr)(n2 c2:Nat)(w:World)
  (hre:RepE P w e [.int .i64 k,.int .i64 n,.string s,.string t,.slice A0 n0 c0,.slice A1 n1 c1,.slice A2 n2 c2]) (hh:hE e≤900000) (hu:Uses w) :
  Calls Tryz.prog 22 #[.agg #[.int .i64 k,.int .i64 n,.string s,.string t,.slice A0 n0 c0,.slice A1 n1 c1,.slice A2 n2 c2]] w fun r w' =>
   r=.returned (.tuple #[.int .i64 (msd chk e).1,.int .i64 (msd chk e).2.1,.int .i64 (msd chk e).2.2])∧Below w.heap.size w w':=by
 have HN:=Lib.hid (fun w=>nodes_any k n s t A0 n0 c0 A1 n1 c1 A2 n2 c2 w)
 have HM:Hid (∀ w1,Below w.heap.size w w1→Calls Tryz.prog 61 #[.func (.func 92) #[] #[.pointer (some ⟨w1.heap.size,0,none⟩),.pointer (some ⟨w1.heap.size+1,0,none⟩)]]
   ((w1.alloc (.cells #[.int .i64 k,.int .i64 n,.string s,.string t,.slice A0 n0 c0,.slice A1 n1 c1,.slice A2 n2 c2] 27)).alloc (.cells #[.func (.func 63) #[] #[]] 90)) fun r w' =>
   r=.returned (.tuple #[.int .i64 (measF 0 0 (nodesE 1 e)).1,.int .i64 (measF 0 0 (nodesE 1 e)).2])∧Below w1.heap.size w1 w'):=Lib.hid (fun w1 hb=>by
  have hg:w1.grownBy ((w1.alloc (.cells #[.int .i64 k,.int .i64 n,.string s,.string t,.slice A0 n0 c0,.slice A1 n1 c1,.slice A2 n2 c2] 27)).alloc (.cells #[.func (.func 63) #[] #[]] 90)) none:=grown_trans (World.grownBy_alloc _ _ _) (World.grownBy_alloc _ _ _)
  refine (measure_any w1.heap.size (w1.heap.size+1) e _ _ ((cellsAt_new w1 _ _).keepC (P:=fun _=>True) trivial (KC.alloc _ _ _)) ?_ ⟨by simp <;> omega,by simp <;> omega⟩ (((hre.keep (Same.of_below hb)).keep (Same.of_grown hg (fun _ _=>by simp))).tight.weaken (fun x hx=>hx.2)) hh).mono ?_
  ·have:=(B1.new (w1.alloc (.cells #[.int .i64 k,.int .i64 n,.string s,.string t,.slice A0 n0 c0,.slice A1 n1 c1,.slice A2 n2 c2] 27)) 90 (.func (.func 63) #[] #[])).c
   rwa [World.size_alloc] at this
  ·rintro r w' ⟨h1,h2⟩
   exact ⟨h1,((Below.refl w1.heap.size w1).grown hg (Nat.le_refl _) (fun j e=>by cases e)).trans (h2.mono hg.size)⟩)
 have HF:Hid (∀ w1,Below w.heap.size w w1→Calls Tryz.prog 64 #[.func (.func 92) #[] #[.pointer (some ⟨w1.heap.size,0,none⟩),.pointer (some ⟨w1.heap.size+1,0,none⟩)],.func (.func 65) #[] #[]]
   ((w1.alloc (.cells #[.int .i64 k,.int .i64 n,.string s,.string t,.slice A0 n0 c0,.slice A1 n1 c1,.slice A2 n2 c2] 27)).alloc (.cells #[.func (.func 63) #[] #[]] 90)) fun r w' =>
   r=.returned (.int .i64 (firstF chk (nodesE 1 e)))∧Below w1.heap.size w1 w'):=Lib.hid (fun w1 hb=>by
  have hg:w1.grownBy ((w1.alloc (.cells #[.int .i64 k,.int .i64 n,.string s,.string t,.slice A0 n0 c0,.slice A1 n1 c1,.slice A2 n2 c2] 27)).alloc (.cells #[.func (.func 63) #[] #[]] 90)) none:=grown_trans (World.grownBy_alloc _ _ _) (World.grownBy_alloc _ _ _)
  refine (firstError_any chk HCk w1.heap.size (w1.heap.size+1) e _ _ ((cellsAt_new w1 _ _).keepC (P:=fun _=>True) trivial (KC.alloc _ _ _)) ?_ ⟨by simp <;> omega,by simp <;> omega⟩ (((hre.keep (Same.of_below hb)).keep (Same.of_grown hg (fun _ _=>by simp))).tight.weaken (fun x hx=>hx.2)) hh ((hu.below hb).grown hg)).mono ?_
  ·have:=(B1.new (w1.alloc (.cells #[.int .i64 k,.int .i64 n,.string s,.string t,.slice A0 n0 c0,.slice A1 n1 c1,.slice A2 n2 c2] 27)) 90 (.func (.func 63) #[] #[])).c
   rwa [World.size_alloc] at this
  ·rintro r w' ⟨h1,h2⟩
   exact ⟨h1,((Below.refl w1.heap.size w1).grown hg (Nat.le_refl _) (fun j e=>by cases e)).trans (h2.mono hg.size)⟩)
 have HE0:=Lib.hid (EB.new w (.int .i64 k) (.int .i64 n) (.string s) (.string t) (.slice A0 n0 c0) (.slice A1 n1 c1) (.slice A2 n2 c2))
 have HB0:=Lib.hid ((Below.refl w.heap.size w).alloc (Nat.le_refl _) (.cells #[.int .i64 k,.int .i64 n,.string s,.string t,.slice A0 n0 c0,.slice A1 n1 c1,.slice A2 n2 c2] 27))
 obtain ⟨S,hS⟩:∃ S,S=(measF 0 0 (nodesE 1 e)).1:=⟨_,rfl⟩
 obtain ⟨D,hD⟩:∃ D,D=(measF 0 0 (nodesE 1 e)).2:=⟨_,rfl⟩
 obtain ⟨V,hV⟩:∃ V,V=firstF chk (nodesE 1 e):=⟨_,rfl⟩
 have HR:Hid (msd chk e=if 3000 < S∨200 < D then (0,0,3) else if V=0 then (S,D,0) else (0,0,V)):=Lib.hid (by unfold msd;rw [← hS,← hD,← hV])
 rw [← hS,← hD] at HM
 rw [← hV] at HF
 clear hS hD hV hre hu
 go_enter Tryz.func22,Tryz.ntmps22
 go_wp2_with fail
 refine (HN.out _).mono ?_
 rintro r w1 ⟨rfl,rfl⟩
 go_wp2_with fail
 have hm1:=HM.out _ HB0.out
 rw [World.size_alloc] at hm1
 refine hm1.mono ?_
 rintro r w2 ⟨rfl,hb0⟩
 have hb:Below (w.alloc (.cells #[.int .i64 k,.int .i64 n,.string s,.string t,.slice A0 n0 c0,.slice A1 n1 c1,.slice A2 n2 c2] 27)).heap.size (w.alloc (.cells #[.int .i64 k,.int .i64 n,.string s,.string t,.slice A0 n0 c0,.slice A1 n1 c1,.slice A2 n2 c2] 27)) w2:=by
  rw [World.size_alloc];exact hb0
 have HE2:=Lib.hid (HE0.out.kept (grown_below hb none) (by simp))
 have HB2:=Lib.hid (HB0.out.trans (hb.mono (by simp)))
 have e0:=HE2.out.c0
 have e1:=HE2.out.c1
 have e2:=HE2.out.c2
 have e3:=HE2.out.c3
 have e4:=HE2.out.c4
 have e5:=HE2.out.c5
 have e6:=HE2.out.c6
 clear hm1 hb hb0
 by_cases hbig:3000 < S∨200 < D
 ·have HR2:Hid (msd chk e=(0,0,3)):=Lib.hid (by rw [HR.out,if_pos hbig])
  by_cases hs1:3000 < S
  ·have g1:decide (3000 < S)=true:=decide_eq_true hs1
   clear hbig
   go_wp2_with fail
   go_ret3
   exact ⟨by rw [HR2.out];rfl,HB2.out⟩
  ·have g1:decide (3000 < S)=false:=decide_eq_false hs1
   have g2:decide (200 < D)=true:=decide_eq_true (hbig.resolve_left hs1)
   clear hbig
   go_wp2_with fail
   go_ret3
   exact ⟨by rw [HR2.out];rfl,HB2.out⟩
 ·have g1:decide (3000 < S)=false:=decide_eq_false (fun h=>hbig (.inl h))
  have g2:decide (200 < D)=false:=decide_eq_false (fun h=>hbig (.inr h))
  have HR2:Hid (msd chk e=if V=0 then (S,D,0) else (0,0,V)):=Lib.hid (by rw [HR.out,if_neg hbig])
  clear hbig
  go_wp2_with fail
  refine (HN.out _).mono ?_
  rintro r w3 ⟨rfl,rfl⟩
  go_wp2_with fail
  refine (HF.out _ HB2.out).mono ?_
  rintro r w4 ⟨rfl,hb⟩
  have HB4:=Lib.hid (HB2.out.trans (hb.mono HB2.out.size))
  clear hb
  by_cases hv:V=0
  ·have HR3:Hid (msd chk e=(S,D,0)):=Lib.hid (by rw [HR2.out,if_pos hv])
   subst hv
   go_wp2_with fail
   go_ret3
   exact ⟨by rw [HR3.out];rfl,HB4.out⟩
  ·have hvb:(V == 0)=false:=beq_eq_false_iff_ne.2 hv
   have HR3:Hid (msd chk e=(0,0,V)):=Lib.hid (by rw [HR2.out,if_neg hv])
   go_wp2_with fail
   go_ret3
   exact ⟨by rw [HR3.out];rfl,HB4.out⟩
set_option maxRecDepth 100000 in
set_option maxHeartbeats 1000000 in
theorem Size_any (chk:Ex→Int)(HCk:Hid (ChkSays chk))(P:Nat→Prop)(e:Ex)(k n:Int)(s t:ByteArray)(A0:Option Addr)(n0 c0:Nat)(A1:Option Addr)(n1 c1:Nat)(A2:Option Addr)(n2 c2:Nat)(w:World)
  (hre:RepE P w e [.int .i64 k,.int .i64 n,.string s,.string t,.slice A0 n0 c0,.slice A1 n1 c1,.slice A2 n2 c2]) (hh:hE e≤900000) (hu:Uses w) :
  Calls Tryz.prog 12 #[.agg #[.int .i64 k,.int .i64 n,.string s,.string t,.slice A0 n0 c0,.slice A1 n1 c1,.slice A2 n2 c2]] w fun r w'=>r=.returned (.int .i64 (msd chk e).1)∧Below w.heap.size w w':=by
 have hb0:=(Below.refl w.heap.size w).alloc (Nat.le_refl _) (.cells #[.int .i64 k,.int .i64 n,.string s,.string t,.slice A0 n0 c0,.slice A1 n1 c1,.slice A2 n2 c2] 27)
 have HM:=Lib.hid (measured_any chk HCk P e k n s t A0 n0 c0 A1 n1 c1 A2 n2 c2 _ (hre.keep (Same.of_below hb0)) hh (hu.below hb0))
 have HB0:=Lib.hid hb0
 clear hre hb0 hu
 go_enter Tryz.func12,Tryz.ntmps12
 go_wp2_with fail
 refine HM.out.mono ?_
 rintro r w2 ⟨rfl,hb⟩
 have HB2:=Lib.hid (HB0.out.trans (hb.mono (by simp)))
 clear hb
 go_wp2_with fail
 go_ret
 exact ⟨rfl,HB2.out⟩
set_option maxRecDepth 100000 in
set_option maxHeartbeats 1000000 in
theorem Depth_any (chk:Ex→Int)(HCk:Hid (ChkSays chk))(P:Nat→Prop)(e:Ex)(k n:Int)(s t:ByteArray)(A0:Option Addr)(n0 c0:Nat)(A1:Option Addr)(n1 c1:Nat)(A2:Option Addr)(n2 c2:Nat)(w:World)
  (hre:RepE P w e [.int .i64 k,.int .i64 n,.string s,.string t,.slice A0 n0 c0,.slice A1 n1 c1,.slice A2 n2 c2]) (hh:hE e≤900000) (hu:Uses w) :
  Calls Tryz.prog 10 #[.agg #[.int .i64 k,.int .i64 n,.string s,.string t,.slice A0 n0 c0,.slice A1 n1 c1,.slice A2 n2 c2]] w fun r w'=>r=.returned (.int .i64 (msd chk e).2.1)∧Below w.heap.size w w':=by
 have hb0:=(Below.refl w.heap.size w).alloc (Nat.le_refl _) (.cells #[.int .i64 k,.int .i64 n,.string s,.string t,.slice A0 n0 c0,.slice A1 n1 c1,.slice A2 n2 c2] 27)
 have HM:=Lib.hid (measured_any chk HCk P e k n s t A0 n0 c0 A1 n1 c1 A2 n2 c2 _ (hre.keep (Same.of_below hb0)) hh (hu.below hb0))
 have HB0:=Lib.hid hb0
 clear hre hb0 hu
 go_enter Tryz.func10,Tryz.ntmps10
 go_wp2_with fail
 refine HM.out.mono ?_
 rintro r w2 ⟨rfl,hb⟩
 have HB2:=Lib.hid (HB0.out.trans (hb.mono (by simp)))
 clear hb
 go_wp2_with fail
 go_ret
 exact ⟨rfl,HB2.out⟩
set_option maxRecDepth 100000 in
set_option maxHeartbeats 1000000 in
theorem Check_any (chk:Ex→Int)(HCk:Hid (ChkSays chk))(P:Nat→Prop)(e:Ex)(k n:Int)(s t:ByteArray)(A0:Option Addr)(n0 c0:Nat)(A1:Option Addr)(n1 c1:Nat)(A2:Option Addr)(n2 c2:Nat)(w:World)
  (hre:RepE P w e [.int .i64 k,.int .i64 n,.string s,.string t,.slice A0 n0 c0,.slice A1 n1 c1,.slice A2 n2 c2]) (hh:hE e≤900000) (hu:Uses w) :
  Calls Tryz.prog 13 #[.agg #[.int .i64 k,.int .i64 n,.string s,.string t,.slice A0 n0 c0,.slice A1 n1 c1,.slice A2 n2 c2]] w fun r w'=>r=.returned (.int .i64 (msd chk e).2.2)∧Below w.heap.size w w':=by
 have hb0:=(Below.refl w.heap.size w).alloc (Nat.le_refl _) (.cells #[.int .i64 k,.int .i64 n,.string s,.string t,.slice A0 n0 c0,.slice A1 n1 c1,.slice A2 n2 c2] 27)
 have HM:=Lib.hid (measured_any chk HCk P e k n s t A0 n0 c0 A1 n1 c1 A2 n2 c2 _ (hre.keep (Same.of_below hb0)) hh (hu.below hb0))
 have HB0:=Lib.hid hb0
 clear hre hb0 hu
 go_enter Tryz.func13,Tryz.ntmps13
 go_wp2_with fail
 refine HM.out.mono ?_
 rintro r w2 ⟨rfl,hb⟩
 have HB2:=Lib.hid (HB0.out.trans (hb.mono (by simp)))
 clear hb
 go_wp2_with fail
 go_ret
 exact ⟨rfl,HB2.out⟩
def numHas (c n:Int):Bool:=if c=1 then n == 0 || n == 1 else if c=2 then decide (0≤n) && decide (n≤999999999) else if c=3 then decide (-999999999≤n) && decide (n≤999999999) else n == 0
set_option maxRecDepth 100000 in
set_option maxHeartbeats 1000000 in
theorem numHas_any (c n:Int)(hc:0≤c∧c≤3)(w:World):Calls Tryz.prog 95 #[.int .u8 c,.int .i64 n] w fun e w'=>e=.returned (.bool (numHas c n))∧w=w':=by
 obtain ⟨r,hr⟩:∃ r,r=numHas c n:=⟨_,rfl⟩
 rw [← hr]
 have hcs:c=0∨c=1∨c=2∨c=3:=by omega
 clear hc
 unfold numHas at hr
 rcases hcs with rfl | rfl | rfl | rfl
 ·simp only [show ¬ (0:Int)=1 by omega,show ¬ (0:Int)=2 by omega,show ¬ (0:Int)=3 by omega,if_false] at hr
  have HR:=Lib.hid hr
  clear hr
  go_enter Tryz.func95,Tryz.ntmps95
  go_wp2_with fail
  go_ret
  exact ⟨by rw [HR.out];rfl,rfl⟩
 ·simp only [if_true] at hr
  by_cases h0:n=0
  ·subst h0
   have HR:Hid (r=true):=Lib.hid (by rw [hr];rfl)
   clear hr
   go_enter Tryz.func95,Tryz.ntmps95
   go_wp2_with fail
   go_ret
   exact ⟨by rw [HR.out];rfl,rfl⟩
  ·have hb:(n == 0)=false:=beq_eq_false_iff_ne.2 h0
   have HR:Hid (r=(n == 1)):=Lib.hid (by rw [hr,hb,Bool.false_or])
   clear hr
   go_enter Tryz.func95,Tryz.ntmps95
   go_wp2_with fail
   go_ret
   exact ⟨by rw [HR.out];rfl,rfl⟩
 ·simp only [show ¬ (2:Int)=1 by omega,if_false,if_true] at hr
  by_cases h0:0≤n
  ·have hb:decide (0≤n)=true:=decide_eq_true h0
   have HR:Hid (r=decide (n≤999999999)):=Lib.hid (by rw [hr,hb,Bool.true_and])
   clear hr
   go_enter Tryz.func95,Tryz.ntmps95
   go_wp2_with fail
   go_ret
   exact ⟨by rw [HR.out];rfl,rfl⟩
  ·have hb:decide (0≤n)=false:=decide_eq_false h0
   have HR:Hid (r=false):=Lib.hid (by rw [hr,hb,Bool.false_and])
   clear hr
   go_enter Tryz.func95,Tryz.ntmps95
   go_wp2_with fail
   go_ret
   exact ⟨by rw [HR.out];rfl,rfl⟩
 ·simp only [show ¬ (3:Int)=1 by omega,show ¬ (3:Int)=2 by omega,if_false,if_true] at hr
  by_cases h0:-999999999≤n
  ·have hb:decide (-999999999≤n)=true:=decide_eq_true h0
   have HR:Hid (r=decide (n≤999999999)):=Lib.hid (by rw [hr,hb,Bool.true_and])
   clear hr
   go_enter Tryz.func95,Tryz.ntmps95
   go_wp2_with fail
   go_ret
   exact ⟨by rw [HR.out];rfl,rfl⟩
  ·have hb:decide (-999999999≤n)=false:=decide_eq_false h0
   have HR:Hid (r=false):=Lib.hid (by rw [hr,hb,Bool.false_and])
   clear hr
   go_enter Tryz.func95,Tryz.ntmps95
   go_wp2_with fail
   go_ret
   exact ⟨by rw [HR.out];rfl,rfl⟩
def cntIn (n a b:Int):Bool:=decide (a≤n) && decide (n≤a+b)
set_option maxRecDepth 100000 in
set_option maxHeartbeats 1000000 in
theorem counts_any (n a b:Int)(ha:0≤a∧a≤255)(hb:0≤b∧b≤255)(w:World):Calls Tryz.prog 97 #[.int .i64 n,.int .u8 a,.int .u8 b] w fun e w'=>e=.returned (.bool (cntIn n a b))∧w=w':=by
 obtain ⟨r,hr⟩:∃ r,r=cntIn n a b:=⟨_,rfl⟩
 rw [← hr]
 unfold cntIn at hr
 obtain ⟨a1,a2⟩:=ha
 obtain ⟨b1,b2⟩:=hb
 by_cases h0:a≤n
 ·have hb:decide (a≤n)=true:=decide_eq_true h0
  have HR:Hid (r=decide (n≤a+b)):=Lib.hid (by rw [hr,hb,Bool.true_and])
  clear hr
  go_enter Tryz.func97,Tryz.ntmps97
  go_wp2_with fail
  go_ret
  exact ⟨by rw [HR.out];rfl,rfl⟩
 ·have hb:decide (a≤n)=false:=decide_eq_false h0
  have HR:Hid (r=false):=Lib.hid (by rw [hr,hb,Bool.false_and])
  clear hr
  go_enter Tryz.func97,Tryz.ntmps97
  go_wp2_with fail
  go_ret
  exact ⟨by rw [HR.out];rfl,rfl⟩
def nameHas (c:Int)(s:List UInt8):Bool:=if c=1 then isV s else if c=2 then isNm 2 s else if c=4 then (opLv s).isSome else s == []
set_option maxRecDepth 100000 in
set_option maxHeartbeats 1000000 in
theorem nameHas_any (c:Int)(s:List UInt8)(hc:c=0∨c=1∨c=2∨c=4)(hs:s.length≤maxLen)(w:World):Calls Tryz.prog 96 #[.int .u8 c,.string (strB s)] w fun e w'=>e=.returned (.bool (nameHas c s))∧Below w.heap.size w w':=by
 obtain ⟨r,hr⟩:∃ r,r=nameHas c s:=⟨_,rfl⟩
 rw [← hr]
 unfold nameHas at hr
 have hsz:(strB s).size≤maxLen:=by rw [strB_size];exact hs
 have HV:=Lib.hid (fun w=>IsVar_any (strB s) w hsz)
 have HU:=Lib.hid (fun w=>IsUpper_any (strB s) w hsz)
 have HO:=Lib.hid (fun w=>opLevel_any s w)
 rw [data_strB] at HV HU
 rcases hc with rfl | rfl | rfl | rfl
 ·simp only [show ¬ (0:Int)=1 by omega,show ¬ (0:Int)=2 by omega,show ¬ (0:Int)=4 by omega,if_false] at hr
  have HR:=Lib.hid hr
  obtain ⟨S,hS⟩:∃ S,S=strB s:=⟨_,rfl⟩
  have hq:(S.toList == [])=r:=by rw [hS,ByteArray.toList_eq,data_strB,hr]
  rw [← hS]
  clear hr hs hsz HV HU HO hS
  cases r
  all_goals
   go_enter Tryz.func96,Tryz.ntmps96
   go_wp2_with fail
   go_ret
   exact ⟨rfl,Below.refl _ _⟩
 ·simp only [if_true] at hr
  rw [← hr] at HV
  clear hr hs hsz HU HO
  go_enter Tryz.func96,Tryz.ntmps96
  go_wp2_with fail
  refine (HV.out _).mono ?_
  rintro e w' ⟨rfl,hb⟩
  have HB:=Lib.hid hb
  clear hb
  go_wp2_with fail
  go_ret
  exact ⟨rfl,HB.out⟩
 ·simp only [show ¬ (2:Int)=1 by omega,if_false,if_true] at hr
  rw [← hr] at HU
  clear hr hs hsz HV HO
  go_enter Tryz.func96,Tryz.ntmps96
  go_wp2_with fail
  refine (HU.out _).mono ?_
  rintro e w' ⟨rfl,hb⟩
  have HB:=Lib.hid hb
  clear hb
  go_wp2_with fail
  go_ret
  exact ⟨rfl,HB.out⟩
 ·simp only [show ¬ (4:Int)=1 by omega,show ¬ (4:Int)=2 by omega,if_false,if_true] at hr
  cases ho:opLv s with
  | none =>
   have hr2:r=false:=by rw [hr,ho];rfl
   subst hr2
   have HO1:Hid (∀ w,Calls Tryz.prog 71 #[.string (strB s)] w fun e w'=>e=.returned (.tuple #[.int .i64 0,.bool false])∧w=w'):=fun w=>(HO.out w).mono fun e w' h=>⟨by rw [h.1,ho];rfl,h.2⟩
   clear hr hs hsz HV HU HO ho
   go_enter Tryz.func96,Tryz.ntmps96
   go_wp2_with fail
   refine (HO1.out _).mono ?_
   rintro e w' ⟨rfl,rfl⟩
   go_wp2_with fail
   go_ret
   exact ⟨rfl,Below.refl _ _⟩
  | some m =>
   have hr2:r=true:=by rw [hr,ho];rfl
   subst hr2
   have HO1:Hid (∀ w,Calls Tryz.prog 71 #[.string (strB s)] w fun e w'=>e=.returned (.tuple #[.int .i64 m,.bool true])∧w=w'):=fun w=>(HO.out w).mono fun e w' h=>⟨by rw [h.1,ho];rfl,h.2⟩
   clear hr hs hsz HV HU HO ho
   go_enter Tryz.func96,Tryz.ntmps96
   go_wp2_with fail
   refine (HO1.out _).mono ?_
   rintro e w' ⟨rfl,rfl⟩
   go_wp2_with fail
   go_ret
   exact ⟨rfl,Below.refl _ _⟩
set_option maxRecDepth 100000 in
set_option maxHeartbeats 1000000 in
theorem index_any (P:Nat→Prop)(A:Option Addr)(c:Nat)(ns:List (List UInt8))(x:List UInt8)(w:World)(h:NamesAt P w A ns)(hl:ns.length≤maxLen) :
  Calls Tryz.prog 139 #[.slice A ns.length c,.string (strB x)] w fun e w'=>(∃ r:Int,e=.returned (.int .i64 r)∧-1≤r∧Hid (decide (0≤r)=ns.contains x))∧w=w':=by
 have HN:=Lib.hid h
 obtain ⟨n,hn⟩:∃ n,n=ns.length:=⟨_,rfl⟩
 have HL:=Lib.hid hn
 unfold maxLen at hl
 rw [← hn] at hl ⊢
 obtain ⟨X,hX⟩:∃ X,X=strB x:=⟨_,rfl⟩
 have HX:=Lib.hid hX
 rw [← hX]
 clear h hn hX
 go_enter Tryz.func139,Tryz.ntmps139
 go_wp2_with fail
 go_loopw [8] (fun i wr=>∃ k:Nat,k≤n∧i=.int .i64 (k:Int)∧Hid (wr=w)∧Hid (x ∉ ns.take k)) (fun i _=>n - (intOf i).toNat)
 case atStart=>exact ⟨0,Nat.zero_le _,rfl,Lib.hid rfl,Lib.hid (by simp)⟩
 case round =>
  obtain ⟨k,hk,rfl,hw,hno⟩:=hrel
  obtain rfl:=hw.out
  have i0:(0:Int)≤(k:Int):=by omega
  by_cases hkl:k < n
  ·have hkl':k < ns.length:=by rw [← HL.out];exact hkl
   obtain ⟨b,off,rfl,hp,hlt,hc⟩:=HN.out (List.ne_nil_of_length_pos (by omega))
   have c0:=hc k _ (List.getElem?_eq_getElem hkl')
   obtain ⟨Y,hY⟩:∃ Y,Y=strB ns[k]:=⟨_,rfl⟩
   rw [← hY] at c0
   have i1:(k:Int) < (n:Int):=by omega
   have hcmp:(X.toList == Y.toList)=(x == ns[k]):=by rw [HX.out,hY,ByteArray.toList_eq,ByteArray.toList_eq,data_strB,data_strB]
   have HT:Hid (ns.take (k+1)=ns.take k++[ns[k]]):=Lib.hid (by rw [List.take_add_one,List.getElem?_eq_getElem hkl'];rfl)
   by_cases hq:x=ns[k]
   ·have hc2:(X.toList == Y.toList)=true:=by rw [hcmp];simpa using hq
    have HQ:Hid (x∈ns):=Lib.hid (by rw [hq];exact List.getElem_mem hkl')
    clear hc hp hlt hY hcmp hq
    go_wp2_with fail
    go_ret
    exact ⟨⟨k,rfl,by omega,Lib.hid (iff_of_true i0 HQ.out)⟩,rfl⟩
   ·have hc2:(X.toList == Y.toList)=false:=by rw [hcmp];simpa using hq
    have HQ:=Lib.hid hq
    clear hc hp hlt hY hcmp hq
    go_wp2_with fail
    go_roundw
    case rel=>exact ⟨k+1,by omega,by go_num,by first | exact Lib.hid rfl | exact Lib.hid trivial,Lib.hid (by rw [HT.out,List.mem_append,not_or];exact ⟨hno.out,by simpa using HQ.out⟩)⟩
    case measure=>simp [intOf];omega
  ·obtain rfl:k=n:=by omega
   have HQ:Hid (x ∉ ns):=Lib.hid (by have:=hno.out;rwa [HL.out,List.take_length] at this)
   go_wp2_with fail
   go_ret
   exact ⟨⟨-1,rfl,by omega,Lib.hid (iff_of_false (by omega) HQ.out)⟩,rfl⟩
set_option maxRecDepth 100000 in
set_option maxHeartbeats 1000000 in
theorem contains_any (P:Nat→Prop)(A:Option Addr)(c:Nat)(ns:List (List UInt8))(x:List UInt8)(w:World)(h:NamesAt P w A ns)(hl:ns.length≤maxLen) :
  Calls Tryz.prog 115 #[.slice A ns.length c,.string (strB x)] w fun e w'=>e=.returned (.bool (ns.contains x))∧w=w':=by
 have HI:=Lib.hid (index_any P A c ns x w h hl)
 clear h hl
 go_enter Tryz.func115,Tryz.ntmps115
 go_wp2_with fail
 refine HI.out.mono ?_
 rintro e w' ⟨⟨r,rfl,h1,h2⟩,rfl⟩
 have HR:=h2
 clear h2
 go_wp2_with fail
 go_ret
 exact ⟨by rw [← HR.out];rfl,rfl⟩
def nmErr (c:Int):List (List UInt8)→List (List UInt8)→Int
 | _,[]=>0
 | seen,x :: r=>if nameHas c x=false then 4 else if seen.contains x=true then 5 else nmErr c (seen++[x]) r
set_option maxRecDepth 100000 in
set_option maxHeartbeats 2000000 in
theorem checkNames_any (c:Int)(hc:c=0∨c=1∨c=2∨c=4)(P:Nat→Prop)(A:Option Addr)(cp:Nat)(ns:List (List UInt8))(w:World)(h:NamesAt P w A ns)(hl:ns.length≤cp∧cp≤maxLen)(hok:∀ x∈ns,okS x) :
  Calls Tryz.prog 122 #[.slice A ns.length cp,.int .u8 c] w fun e w'=>e=.returned (.int .i64 (nmErr c [] ns))∧Below w.heap.size w w':=by
 have HN:=Lib.hid h
 have HOK:=Lib.hid hok
 have HC:=Lib.hid (fun x w h1=>nameHas_any c x hc h1 w)
 obtain ⟨n,hn⟩:∃ n,n=ns.length:=⟨_,rfl⟩
 have HL:=Lib.hid hn
 unfold maxLen at hl
 obtain ⟨hl1,hl2⟩:=hl
 rw [← hn] at hl1 ⊢
 have hl3:n≤2 ^ 63 - 1:=Nat.le_trans hl1 hl2
 obtain ⟨R,hR⟩:∃ R,R=nmErr c [] ns:=⟨_,rfl⟩
 have HR:=Lib.hid hR
 rw [← hR]
 clear h hn hR hok hc
 go_enter Tryz.func122,Tryz.ntmps122
 go_wp2_with fail
 go_loopw [9] (fun i wr=>∃ k:Nat,k≤n∧i=.int .i64 (k:Int)∧Hid (Below w.heap.size w wr)∧Hid (R=nmErr c (ns.take k) (ns.drop k))) (fun i _=>n - (intOf i).toNat)
 case atStart=>exact ⟨0,Nat.zero_le _,rfl,Lib.hid (Below.refl _ _),Lib.hid (by rw [HR.out];rfl)⟩
 case round =>
  obtain ⟨k,hk,rfl,hB,hE⟩:=hrel
  have i0:(0:Int)≤(k:Int):=by omega
  by_cases hkl:k < n
  ·have hkl':k < ns.length:=by rw [← HL.out];exact hkl
   obtain ⟨b,off,rfl,hp,hlt,hcc⟩:=HN.out (List.ne_nil_of_length_pos (by omega))
   have c0:wr.cell? ⟨b,off+k,none⟩=some (.string (strB ns[k])):=(Same.of_below hB.out).cell (P:=fun _=>True) trivial hlt (off+k) |>.trans (hcc k _ (List.getElem?_eq_getElem hkl'))
   obtain ⟨y,hy⟩:∃ y,y=ns[k]:=⟨_,rfl⟩
   have HD:Hid (ns.drop k=y :: ns.drop (k+1)):=Lib.hid (by rw [hy];exact List.drop_eq_getElem_cons hkl')
   have HT:Hid (ns.take (k+1)=ns.take k++[y]):=Lib.hid (by rw [List.take_add_one,List.getElem?_eq_getElem hkl',hy];rfl)
   have HH:Hid (∀ wx,Calls Tryz.prog 96 #[.int .u8 c,.string (strB y)] wx fun e w'=>e=.returned (.bool (nameHas c y))∧Below wx.heap.size wx w'):=Lib.hid (fun wx=>HC.out y wx (by rw [hy];exact HOK.out _ (List.getElem_mem hkl')))
   have HS:Hid (∀ wx,Below w.heap.size w wx→Calls Tryz.prog 115 #[.slice (some ⟨b,off,none⟩) k cp,.string (strB y)] wx fun e w'=>e=.returned (.bool ((ns.take k).contains y))∧wx=w'):=Lib.hid (fun wx hb=>by
    have hlen:(ns.take k).length=k:=by rw [List.length_take];omega
    have:=contains_any P (some ⟨b,off,none⟩) cp (ns.take k) y wx (fun _=>⟨b,off,rfl,hp,Nat.lt_of_lt_of_le hlt hb.size,fun j l hj=>by
     have hjn:ns[j]?=some l:=by rw [List.getElem?_take] at hj;split at hj;exact hj;cases hj
     exact ((Same.of_below hb).cell (P:=fun _=>True) trivial hlt (off+j)).trans (hcc j l hjn)⟩) (by rw [hlen];unfold maxLen;omega)
    rwa [hlen] at this)
   rw [← hy] at c0
   have i1:(k:Int) < (n:Int):=by omega
   have hkc:k≤cp:=by omega
   obtain ⟨q1,hq1⟩:∃ q,q=nameHas c y:=⟨_,rfl⟩
   obtain ⟨q2,hq2⟩:∃ q,q=(ns.take k).contains y:=⟨_,rfl⟩
   rw [← hq1] at HH
   rw [← hq2] at HS
   have HE:Hid (R=if q1=false then 4 else if q2=true then 5 else nmErr c (ns.take (k+1)) (ns.drop (k+1))):=Lib.hid (by rw [hE.out,HD.out,nmErr,← hq1,← hq2,HT.out])
   clear hcc hp hlt hy hq1 hq2 hE
   cases q1
   ·have HE2:Hid (R=4):=Lib.hid (by rw [HE.out,if_pos rfl])
    go_wp2_with fail
    refine (HH.out _).mono ?_
    rintro e w2 ⟨rfl,hb⟩
    have HB2:=Lib.hid (hB.out.trans (hb.mono hB.out.size))
    clear hb
    go_wp2_with fail
    go_ret
    exact ⟨by rw [HE2.out];rfl,HB2.out⟩
   ·go_wp2_with fail
    refine (HH.out _).mono ?_
    rintro e w2 ⟨rfl,hb⟩
    have HB2:=Lib.hid (hB.out.trans (hb.mono hB.out.size))
    clear hb
    go_wp2_with fail
    refine (HS.out _ HB2.out).mono ?_
    rintro e w3 ⟨rfl,rfl⟩
    cases q2
    ·have HE2:Hid (R=nmErr c (ns.take (k+1)) (ns.drop (k+1))):=Lib.hid (by rw [HE.out,if_neg (by simp),if_neg (by simp)])
     go_wp2_with fail
     go_roundw
     case rel=>exact ⟨k+1,by omega,by go_num,HB2,HE2⟩
     case measure=>simp [intOf];omega
    ·have HE2:Hid (R=5):=Lib.hid (by rw [HE.out,if_neg (by simp),if_pos rfl])
     go_wp2_with fail
     go_ret
     exact ⟨by rw [HE2.out];rfl,HB2.out⟩
  ·obtain rfl:k=n:=by omega
   have HE2:Hid (R=0):=Lib.hid (by rw [hE.out,HL.out,List.drop_length,nmErr])
   go_wp2_with fail
   go_ret
   exact ⟨by rw [HE2.out];rfl,hB.out⟩
theorem NamesAt.take {P:Nat→Prop}{w:World}{A:Option Addr}{L:List (List UInt8)}(h:NamesAt P w A L)(k:Nat):NamesAt P w A (L.take k):=fun h0=>by
 obtain ⟨b,off,e,hp,hlt,hc⟩:=h (fun e=>h0 (by rw [e];simp))
 refine ⟨b,off,e,hp,hlt,fun j l hj=>hc j l ?_⟩
 rw [List.getElem?_take] at hj
 split at hj
 ·exact hj
 ·cases hj
theorem NamesAt.tail {P:Nat→Prop}{w:World}{b off:Nat}{x:List UInt8}{L:List (List UInt8)}(h:NamesAt P w (some ⟨b,off,none⟩) (x :: L)):NamesAt P w (some ⟨b,off+1,none⟩) L:=fun _=>by
 obtain ⟨b',off',e,hp,hlt,hc⟩:=h (by simp)
 injection e with e
 injection e with e1 e2 e3
 subst e1;subst e2
 refine ⟨b,off+1,rfl,hp,hlt,fun j l hj=>?_⟩
 have:=hc (j+1) l (by simpa using hj)
 rwa [show off+1+j=off+(j+1) by omega]
def nmsErr (k:Int)(ns:List (List UInt8)):Int:=if k=17 then (if nmErr 1 [] (ns.take 1)=0 then nmErr 2 [] (ns.drop 1) else nmErr 1 [] (ns.take 1)) else nmErr 1 [] ns
set_option maxRecDepth 100000 in
set_option maxHeartbeats 2000000 in
theorem nodeNames_any (k:Int)(v1 v2 v3:Value)(A:Option Addr)(c:Nat)(v5 v6 u0 u1 u2 u3 u4 u5 u6 u7:Value)(ns:List (List UInt8))(w:World)(h:NamesAt (fun _=>True) w A ns)(hl:ns.length≤c∧c≤maxLen)(hok:∀ x∈ns,okS x)(hk:k=17→0 < ns.length) :
  Calls Tryz.prog 99 #[.agg #[.int .i64 k,v1,v2,v3,.slice A ns.length c,v5,v6,u0,u1,u2,u3,u4,u5,u6,u7]] w fun e w'=>e=.returned (.int .i64 (nmsErr k ns))∧Below w.heap.size w w':=by
 have hb0:=Lib.hid ((Below.refl w.heap.size w).alloc (Nat.le_refl _) (.cells #[.int .i64 k,v1,v2,v3,.slice A ns.length c,v5,v6,u0,u1,u2,u3,u4,u5,u6,u7] 133))
 have HN:=Lib.hid h
 have HOK:=Lib.hid hok
 have HL:=Lib.hid hl
 clear h hok hl
 by_cases hk17:k=17
 ·subst hk17
  have h0:=hk rfl
  cases ns with
  | nil=>simp at h0
  | cons x r =>
   obtain ⟨b,off,rfl,hp,hlt,hcc⟩:=HN.out (by simp)
   have H1:Hid (∀ w',Below w.heap.size w w'→Calls Tryz.prog 122 #[.slice (some ⟨b,off,none⟩) 1 c,.int .u8 1] w' fun e w2=>e=.returned (.int .i64 (nmErr 1 [] [x]))∧Below w'.heap.size w' w2):=Lib.hid (fun w' hb=>by
    have:=checkNames_any 1 (by omega) (fun _=>True) (some ⟨b,off,none⟩) c [x] w' ((HN.out.take 1).keep (Same.of_below hb)) ⟨by have:=HL.out.1;simp at this ⊢;omega,HL.out.2⟩ (by simpa using HOK.out x (by simp))
    simpa using this)
   have H2:Hid (∀ w' A2 c2,Below w.heap.size w w'→r.length≤c2→c2≤maxLen→(r≠[]→A2=some ⟨b,off+1,none⟩)→Calls Tryz.prog 122 #[.slice A2 r.length c2,.int .u8 2] w' fun e w2=>e=.returned (.int .i64 (nmErr 2 [] r))∧Below w'.heap.size w' w2):=Lib.hid (fun w' A2 c2 hb h1 h2 h3 =>
    checkNames_any 2 (by omega) (fun _=>True) A2 c2 r w' (fun h0=>by rw [h3 h0];exact (HN.out.tail.keep (Same.of_below hb)) h0) ⟨h1,h2⟩ (fun y hy=>HOK.out y (by simp [hy])))
   have HR:Hid (nmsErr 17 (x :: r)=if nmErr 1 [] [x]=0 then nmErr 2 [] r else nmErr 1 [] [x]):=Lib.hid rfl
   obtain ⟨R,hR⟩:∃ R,R=nmsErr 17 (x :: r):=⟨_,rfl⟩
   rw [← hR] at HR ⊢
   obtain ⟨V,hV⟩:∃ V,V=nmErr 1 [] [x]:=⟨_,rfl⟩
   obtain ⟨V2,hV2⟩:∃ V2,V2=nmErr 2 [] r:=⟨_,rfl⟩
   rw [← hV] at HR H1
   rw [← hV2] at HR H2
   have hc1:r.length+1≤c:=by have:=HL.out.1;simpa using this
   have hc2:=HL.out.2
   rw [show (x :: r).length=r.length+1 from rfl] at hb0 ⊢
   obtain ⟨n,hn⟩:∃ n,n=r.length:=⟨_,rfl⟩
   have HRn:Hid (r≠[]→n≠0):=Lib.hid (fun h e=>h (List.length_eq_zero_iff.1 (by rw [← hn];exact e)))
   rw [← hn] at hb0 hc1 H2 ⊢
   unfold maxLen at hc2
   clear hcc hlt hp hR hV hV2 hn h0 hk HN HL HOK
   go_enter Tryz.func99,Tryz.ntmps99
   go_wp2_with fail
   refine (H1.out _ hb0.out).mono ?_
   rintro e w2 ⟨rfl,hb⟩
   have HB2:=Lib.hid (hb0.out.trans (hb.mono (by simp)))
   have c4:w2.cell? ⟨w.heap.size,4,none⟩=some (.slice (some ⟨b,off,none⟩) (n+1) c):=(hb.cell (p:=⟨_,_,none⟩) (by simp)).trans (by simp [go_sem])
   clear hb
   by_cases hv:V=0
   ·subst hv
    have HR2:Hid (R=V2):=Lib.hid (by rw [HR.out,if_pos rfl])
    by_cases hc1':c=1
    ·subst hc1'
     obtain rfl:n=0:=by omega
     go_wp2_with fail
     refine (H2.out _ _ 0 HB2.out (Nat.le_refl _) (Nat.zero_le _) (fun h=>absurd rfl (HRn.out h))).mono ?_
     rintro e w3 ⟨rfl,hb⟩
     have HB3:=Lib.hid (HB2.out.trans (hb.mono HB2.out.size))
     clear hb
     go_wp2_with fail
     go_ret
     exact ⟨by rw [HR2.out];rfl,HB3.out⟩
    ·go_wp2_with fail
     refine (H2.out _ _ (c - 1) HB2.out (by omega) (by unfold maxLen;omega) (fun _=>rfl)).mono ?_
     rintro e w3 ⟨rfl,hb⟩
     have HB3:=Lib.hid (HB2.out.trans (hb.mono HB2.out.size))
     clear hb
     go_wp2_with fail
     go_ret
     exact ⟨by rw [HR2.out];rfl,HB3.out⟩
   ·have hvb:(V == 0)=false:=by simpa using hv
    have HR2:Hid (R=V):=Lib.hid (by rw [HR.out,if_neg hv])
    clear hv
    go_wp2_with fail
    go_ret
    exact ⟨by rw [HR2.out];rfl,HB2.out⟩
 ·have hkb:(k != 17)=true:=by simpa using hk17
  have HR:Hid (nmsErr k ns=nmErr 1 [] ns):=Lib.hid (by unfold nmsErr;rw [if_neg hk17])
  have H1:=Lib.hid (fun w' hb=>checkNames_any 1 (by omega) (fun _=>True) A c ns w' (HN.out.keep (Same.of_below hb)) HL.out HOK.out)
  obtain ⟨n,hn⟩:∃ n,n=ns.length:=⟨_,rfl⟩
  rw [← hn] at hb0 H1 ⊢
  clear hk hk17 hn
  go_enter Tryz.func99,Tryz.ntmps99
  go_wp2_with fail
  refine (H1.out _ hb0.out).mono ?_
  rintro e w2 ⟨rfl,hb⟩
  have HB2:=Lib.hid (hb0.out.trans (hb.mono (by simp)))
  clear hb
  go_wp2_with fail
  go_ret
  exact ⟨by rw [HR.out];rfl,HB2.out⟩
abbrev Hds:=List (List UInt8 × List (List UInt8))
def armErrOf (a:Int)(o:List UInt8 × List (List UInt8))(first:Bool):Int:=armErr a (isNm 2 o.1) (isV o.1) o.1 o.2.length first
def armsErr (a:Int):Hds→Hds→Int
 | seen,[]=>if a=2∧seen=[] then 7 else 0
 | seen,o :: r=>if armErrOf a o seen.isEmpty=0 then (if nmErr 1 [] o.2=0 then (if (seen.map (·.1)).contains o.1=true then 5 else armsErr a (seen++[o]) r) else nmErr 1 [] o.2) else armErrOf a o seen.isEmpty
set_option maxRecDepth 100000 in
set_option maxHeartbeats 4000000 in
theorem checkArms_any (v0 v1 v2 v3 v4 v5:Value)(A:Option Addr)(c:Nat)(p0 p1 p2 p3 p4 p5 p6:Value)(a:Int)(ops:Hds)(w:World)(h:ArmsHd w A ops)(hl:ops.length≤c∧c≤maxLen) :
  Calls Tryz.prog 100 #[.agg #[v0,v1,v2,v3,v4,v5,.slice A ops.length c,p0,p1,p2,p3,p4,p5,p6,.int .u8 a]] w fun e w'=>e=.returned (.int .i64 (armsErr a [] ops))∧Below w.heap.size w w':=by
 have HN:=Lib.hid h
 obtain ⟨n,hn⟩:∃ n,n=ops.length:=⟨_,rfl⟩
 have HL:=Lib.hid hn
 unfold maxLen at hl
 obtain ⟨hl1,hl2⟩:=hl
 rw [← hn] at hl1 ⊢
 have hl3:n≤2 ^ 63 - 1:=Nat.le_trans hl1 hl2
 obtain ⟨R,hR⟩:∃ R,R=armsErr a [] ops:=⟨_,rfl⟩
 have HR:=Lib.hid hR
 rw [← hR]
 obtain ⟨W1,hW1⟩:∃ W1,W1=w.alloc (.cells #[v0,v1,v2,v3,v4,v5,.slice A n c,p0,p1,p2,p3,p4,p5,p6,.int .u8 a] 133):=⟨_,rfl⟩
 have HB1:Hid (Below w.heap.size w W1):=Lib.hid (by rw [hW1];exact (Below.refl w.heap.size w).alloc (Nat.le_refl _) _)
 have hz1:w.heap.size < W1.heap.size:=by rw [hW1];simp
 have HZ1:=Lib.hid hz1
 have HC:Hid (CellsAt W1 w.heap.size 0 [v0,v1,v2,v3,v4,v5,.slice A n c,p0,p1,p2,p3,p4,p5,p6,.int .u8 a]):=Lib.hid (fun i v hi=>by
  rw [hW1]
  simp only [World.cell?,World.alloc,Array.getElem?_push_size,Nat.zero_add]
  simpa using hi)
 clear h hn hR hz1
 have HA:Hid (∀ wr,Below W1.heap.size W1 wr→ArmsHd wr A ops):=Lib.hid (fun wr hb=>(HN.out.below HB1.out).below hb)
 go_enter Tryz.func100,Tryz.ntmps100
 go_wp2_with fail
 rw [← hW1]
 clear hW1
 go_loopw [11] (fun i wr=>∃ k:Nat,k≤n∧i=.int .i64 (k:Int)∧Hid (Below W1.heap.size W1 wr)∧Hid (R=armsErr a (ops.take k) (ops.drop k))) (fun i _=>n - (intOf i).toNat)
 case atStart=>exact ⟨0,Nat.zero_le _,rfl,Lib.hid (Below.refl _ _),Lib.hid (by rw [HR.out];rfl)⟩
 case round =>
  obtain ⟨k,hk,rfl,hB,hE⟩:=hrel
  have i0:(0:Int)≤(k:Int):=by omega
  have HCr:Hid (CellsAt wr w.heap.size 0 [v0,v1,v2,v3,v4,v5,.slice A n c,p0,p1,p2,p3,p4,p5,p6,.int .u8 a]):=Lib.hid (HC.out.keep (P:=fun _=>True) trivial HZ1.out (Same.of_below hB.out))
  have c0:=HCr.out 0 _ rfl
  have c1:=HCr.out 1 _ rfl
  have c2:=HCr.out 2 _ rfl
  have c3:=HCr.out 3 _ rfl
  have c4:=HCr.out 4 _ rfl
  have c5:=HCr.out 5 _ rfl
  have c6:=HCr.out 6 _ rfl
  have c7:=HCr.out 7 _ rfl
  have c8:=HCr.out 8 _ rfl
  have c9:=HCr.out 9 _ rfl
  have c10:=HCr.out 10 _ rfl
  have c11:=HCr.out 11 _ rfl
  have c12:=HCr.out 12 _ rfl
  have c13:=HCr.out 13 _ rfl
  have c14:=HCr.out 14 _ rfl
  simp only [Nat.zero_add] at c0 c1 c2 c3 c4 c5 c6 c7 c8 c9 c10 c11 c12 c13 c14
  have hzr:w.heap.size < wr.heap.size:=Nat.lt_of_lt_of_le HZ1.out hB.out.size
  by_cases hkl:k < n
  ·have hkl':k < ops.length:=by rw [← HL.out];exact hkl
   obtain ⟨b,off,rfl,hlt,hcc⟩:=HA.out wr hB.out (List.ne_nil_of_length_pos (by omega))
   obtain ⟨ok1,ok2,An,cn,k0,m0,s0,t0,B0,y0,z0,B1,y1,z1,B2,y2,z2,hn1,hn2,hnm,a0,a1,a2,a3,a4,a5,a6,a7,a8⟩:=hcc k _ (List.getElem?_eq_getElem hkl')
   obtain ⟨o,ho⟩:∃ o,o=ops[k]:=⟨_,rfl⟩
   rw [← ho] at ok1 ok2 hn1 hnm a0 a1
   obtain ⟨S,hS⟩:∃ S,S=strB o.1:=⟨_,rfl⟩
   obtain ⟨m,hm⟩:∃ m,m=o.2.length:=⟨_,rfl⟩
   rw [← hS] at a0
   rw [← hm] at a1
   have i1:(k:Int) < (n:Int):=by omega
   have HO:=Lib.hid ho
   have HS:=Lib.hid hS
   have HM:=Lib.hid hm
   have HD:Hid (ops.drop k=o :: ops.drop (k+1)):=Lib.hid (by rw [ho];exact List.drop_eq_getElem_cons hkl')
   have HT:Hid (ops.take (k+1)=ops.take k++[o]):=Lib.hid (by rw [List.take_add_one,List.getElem?_eq_getElem hkl',ho];rfl)
   have HF:Hid ((ops.take k).isEmpty=((k:Int) == 0)):=Lib.hid (by
    by_cases h0:k=0
    ·subst h0;rfl
    ·rw [show ((k:Int) == 0)=false by simp;omega,List.isEmpty_eq_false_iff]
     intro e
     have:=congrArg List.length e
     rw [List.length_take,List.length_nil] at this
     omega)
   have hsz:(strB o.1).size≤maxLen:=by rw [strB_size];exact ok1
   have HU:=Lib.hid (fun w=>IsUpper_any (strB o.1) w hsz)
   have HV:=Lib.hid (fun w=>IsVar_any (strB o.1) w hsz)
   rw [data_strB] at HU HV
   have HX:=Lib.hid (fun wx=>checkArm_any v0 v1 v2 v3 v4 v5 (.slice (some ⟨b,off,none⟩) n c) p0 p1 p2 p3 p4 p5 p6 a o.1 An o.2.length cn (.int .i64 k0) (.int .i64 m0) (.string s0) (.string t0) (.slice B0 y0 z0) (.slice B1 y1 z1) (.slice B2 y2 z2) ((k:Int) == 0) _ _ (by omega) wx HU HV)
   have HY:=Lib.hid (fun wx (hb:Below wr.heap.size wr wx)=>checkNames_any 1 (by omega) (fun _=>True) An cn o.2 wx (hnm.keep (Same.of_below hb)) ⟨hn1,hn2⟩ ok2)
   have HZ:=Lib.hid (fun wx (hb:Below wr.heap.size wr wx) g hg hlg=>containsArm_any (some ⟨b,off,none⟩) c (ops.take k) o.1 g wx (((HA.out wr hB.out).below hb).take k) (by rw [List.length_take];unfold maxLen;omega) hg hlg)
   rw [show (ops.take k).length=k by rw [List.length_take];omega] at HZ
   have HE:Hid (R=if armErr a (isNm 2 o.1) (isV o.1) o.1 o.2.length ((k:Int) == 0)=0 then (if nmErr 1 [] o.2=0 then (if ((ops.take k).map (·.1)).contains o.1=true then 5 else armsErr a (ops.take (k+1)) (ops.drop (k+1))) else nmErr 1 [] o.2) else armErr a (isNm 2 o.1) (isV o.1) o.1 o.2.length ((k:Int) == 0)):=Lib.hid (by rw [hE.out,HD.out,armsErr,HF.out,HT.out];rfl)
   obtain ⟨E1,hE1⟩:∃ E1,E1=armErr a (isNm 2 o.1) (isV o.1) o.1 o.2.length ((k:Int) == 0):=⟨_,rfl⟩
   obtain ⟨E2,hE2⟩:∃ E2,E2=nmErr 1 [] o.2:=⟨_,rfl⟩
   obtain ⟨q3,hq3⟩:∃ q3,q3=((ops.take k).map (·.1)).contains o.1:=⟨_,rfl⟩
   rw [← hE1] at HE HX
   rw [← hE2] at HE HY
   rw [← hq3] at HE HZ
   rw [← hm] at HX HY
   rw [← hS] at HX HZ
   clear hcc ho hS hm hsz hE1 hE2 hq3 hE hnm ok1 ok2 hn1 HU HV
   go_wp2_with fail
   refine (HX.out _).mono ?_
   rintro e w2 ⟨rfl,hb⟩
   obtain ⟨HB2,HZ2⟩:Hid (Below wr.heap.size wr w2)∧Hid (Below (wr.heap.size+1) (wr.alloc (.cells #[.string S,.slice An m cn,.int .i64 k0,.int .i64 m0,.string s0,.string t0,.slice B0 y0 z0,.slice B1 y1 z1,.slice B2 y2 z2] 57)) w2) :=
    ⟨Lib.hid (((Below.refl wr.heap.size wr).alloc (Nat.le_refl _) _).trans (hb.mono (by simp))),Lib.hid (hb.mono (by simp))⟩
   have d1:w2.cell? ⟨wr.heap.size,1,none⟩=some (.slice An m cn):=(HZ2.out.cell (p:=⟨_,_,none⟩) (by simp)).trans (by simp [go_sem])
   clear hb HX
   by_cases h1:E1=0
   ·subst h1
    have HE1:=Lib.hid (HE.out.trans (if_pos rfl))
    clear HE
    go_wp2_with fail
    refine (HY.out _ HB2.out).mono ?_
    rintro e w3 ⟨rfl,hb⟩
    have HB3:=Lib.hid (HB2.out.trans (hb.mono HB2.out.size))
    have d0:w3.cell? ⟨wr.heap.size,0,none⟩=some (.string S):=((HZ2.out.trans (hb.mono (by have:=HZ2.out.size;simp at this ⊢;omega))).cell (p:=⟨_,_,none⟩) (by simp)).trans (by simp [go_sem])
    have hz3:wr.heap.size < w3.heap.size:=by have:=HZ2.out.size;have:=hb.size;simp at *;omega
    have c6':w3.cell? ⟨w.heap.size,6,none⟩=some (.slice (some ⟨b,off,none⟩) n c):=(HB3.out.cell (p:=⟨_,_,none⟩) hzr).trans c6
    clear hb HY d1
    by_cases h2:E2=0
    ·subst h2
     have HE2:=Lib.hid (HE1.out.trans (if_pos rfl))
     clear HE1
     have hkc:k≤c:=by omega
     go_wp2_with fail
     refine (HZ.out _ HB3.out _ d0 hz3).mono ?_
     rintro e w4 ⟨rfl,hb⟩
     have HB4:=Lib.hid (HB3.out.trans (hb.mono HB3.out.size))
     clear hb HZ
     cases q3
     ·have HE3:=Lib.hid (HE2.out.trans (if_neg (by simp)))
      go_wp2_with fail
      go_roundw
      case rel=>exact ⟨k+1,by omega,by go_num,Lib.hid (hB.out.trans (HB4.out.mono hB.out.size)),HE3⟩
      case measure=>simp [intOf];omega
     ·have HE3:=Lib.hid (HE2.out.trans (if_pos rfl))
      go_wp2_with fail
      go_ret
      exact ⟨by rw [HE3.out];rfl,HB1.out.trans ((hB.out.trans (HB4.out.mono hB.out.size)).mono HB1.out.size)⟩
    ·have h2b:(E2 == 0)=false:=by simpa using h2
     have HE2:=Lib.hid (HE1.out.trans (if_neg h2))
     clear h2
     go_wp2_with fail
     go_ret
     exact ⟨by rw [HE2.out];rfl,HB1.out.trans ((hB.out.trans (HB3.out.mono hB.out.size)).mono HB1.out.size)⟩
   ·have h1b:(E1 == 0)=false:=by simpa using h1
    have HE1:=Lib.hid (HE.out.trans (if_neg h1))
    clear h1
    go_wp2_with fail
    go_ret
    exact ⟨by rw [HE1.out];rfl,HB1.out.trans ((hB.out.trans (HB2.out.mono hB.out.size)).mono HB1.out.size)⟩
  ·obtain rfl:k=n:=by omega
   have HE:Hid (R=if a=2∧ops=[] then 7 else 0):=Lib.hid (by have:=hE.out;rwa [HL.out,List.take_length,List.drop_length,armsErr] at this)
   have HBe:=Lib.hid (HB1.out.trans (hB.out.mono HB1.out.size))
   by_cases ha:a=2
   ·subst ha
    by_cases h0:k=0
    ·subst h0
     have HE2:Hid (R=7):=Lib.hid (by rw [HE.out,if_pos ⟨rfl,List.length_eq_zero_iff.1 HL.out.symm⟩])
     go_wp2_with fail
     go_ret
     exact ⟨by rw [HE2.out];rfl,HBe.out⟩
    ·have h0b:((k:Int) == 0)=false:=by simpa using h0
     have HE2:Hid (R=0):=Lib.hid (by rw [HE.out,if_neg (fun h=>h0 (by rw [HL.out,h.2];rfl))])
     clear h0
     go_wp2_with fail
     go_ret
     exact ⟨by rw [HE2.out];rfl,HBe.out⟩
   ·have hab:(a == 2)=false:=by simpa using ha
    have HE2:Hid (R=0):=Lib.hid (by rw [HE.out,if_neg (fun h=>ha h.1)])
    clear ha
    go_wp2_with fail
    go_ret
    exact ⟨by rw [HE2.out];rfl,HBe.out⟩
def chkK (kn:Nat)(e:Ex):Int :=
 if numHas (useOf kn 0) e.n=false then 1
 else if nameHas (useOf kn 1) e.s=false then 4
 else if nameHas (useOf kn 2) e.t=false then 4
 else if cntIn e.ns.length (useOf kn 3) (useOf kn 4)=false then 7
 else if cntIn e.l.length (useOf kn 5) (useOf kn 6)=false then 7
 else if roomB e.bs.length (useOf kn 7)=false then 7
 else if nmsErr e.k e.ns=0 then armsErr (useOf kn 7) [] e.ops else nmsErr e.k e.ns
def chkN (e:Ex):Int:=if 0≤e.k∧e.k < 20 then chkK e.k.toNat e else 1
def NB (w:World)(b:Nat)(cs:List Value):Prop:=CellsAt w b 0 cs∧b < w.heap.size
theorem NB.below {w w':World}{b:Nat}{cs:List Value}(h:NB w b cs)(hb:Below w.heap.size w w'):NB w' b cs:=⟨h.1.keep (P:=fun _=>True) trivial h.2 (Same.of_below hb),Nat.lt_of_lt_of_le h.2 hb.size⟩
theorem NB.new (w:World)(cs:List Value)(t:TypeId):NB (w.alloc (.cells cs.toArray t)).drew w.heap.size cs:=by
 refine ⟨fun i v hi=>?_,by show w.heap.size < (w.alloc _).heap.size;simp⟩
 have h:(w.alloc (.cells cs.toArray t)).drew.heap[w.heap.size]?=some (.cells cs.toArray t (0,0)):=heap_alloc_new w _
 unfold World.cell?
 simp only [h,Nat.zero_add]
 simpa using hi
set_option maxRecDepth 100000 in
set_option maxHeartbeats 8000000 in
theorem chkN_says:ChkSays chkN:=by
 intro P x k n s t A0 n0 c0 A1 n1 c1 A2 n2 c2 w hU hre
 have HU:=Lib.hid hU
 obtain ⟨R,hR⟩:∃ R,R=chkN x:=⟨_,rfl⟩
 have HR:=Lib.hid hR
 rw [← hR]
 clear hR hU
 cases x with
 | mk xk xn xs xt ns l ops bs =>
 obtain ⟨An,cn,Al,cl,Aa,ca,e,hf,hn,hl,ha,ho⟩:=hre
 simp only [exCells,List.cons.injEq,Value.int.injEq,Value.string.injEq,Value.slice.injEq,and_true,true_and] at e
 obtain ⟨rfl,rfl,rfl,rfl,⟨rfl,rfl,rfl⟩,⟨rfl,rfl,rfl⟩,rfl,rfl,rfl⟩:=e
 have hA:ArmsHd w A2 ops:=fun h0=>by
  obtain ⟨b,off,rfl,_,hlt,hr⟩:=ha (fun e=>h0 (List.length_eq_zero_iff.1 (by rw [ho,e];rfl)))
  exact RepA.heads ho hlt hr h0
 have HA:=Lib.hid hA
 have HN:=Lib.hid (hn.weaken (Q:=fun _=>True) (fun _ _=>trivial))
 have HF:=Lib.hid hf
 have HO:=Lib.hid ho
 clear hA hn hf ha hl ho
 have HB0:=Lib.hid ((Below.refl w.heap.size w).alloc (Nat.le_refl _) (.cells #[.int .i64 k,.int .i64 n,.string (strB xs),.string (strB xt),.slice A0 ns.length c0,.slice A1 l.length c1,.slice A2 bs.length c2] 27))
 by_cases hk:0≤k∧k < 20
 ·obtain ⟨kn,rfl⟩:∃ kn:Nat,k=(kn:Int):=⟨k.toNat,by omega⟩
  have hkn:kn < 20:=by omega
  have i0:(0:Int)≤(kn:Int):=by omega
  have i1:(kn:Int) < 20:=by omega
  clear hk
  have HRK:Hid (R=if numHas (useOf kn 0) n=false then 1
   else if nameHas (useOf kn 1) xs=false then 4
   else if nameHas (useOf kn 2) xt=false then 4
   else if cntIn ns.length (useOf kn 3) (useOf kn 4)=false then 7
   else if cntIn l.length (useOf kn 5) (useOf kn 6)=false then 7
   else if roomB bs.length (useOf kn 7)=false then 7
   else if nmsErr kn ns=0 then armsErr (useOf kn 7) [] ops else nmsErr kn ns):=Lib.hid (by rw [HR.out];unfold chkN;rw [if_pos ⟨i0,i1⟩];rfl)
  have HBD:=Lib.hid (useOf_bd kn hkn)
  have H1:=Lib.hid (fun wx=>numHas_any (useOf kn 0) n HBD.out.1 wx)
  have H2:=Lib.hid (fun wx=>nameHas_any (useOf kn 1) xs HBD.out.2.1 HF.out.hs wx)
  have H3:=Lib.hid (fun wx=>nameHas_any (useOf kn 2) xt HBD.out.2.2.1 HF.out.ht wx)
  have H4:=Lib.hid (fun wx=>counts_any ns.length (useOf kn 3) (useOf kn 4) HBD.out.2.2.2.1 HBD.out.2.2.2.2.1 wx)
  have H5:=Lib.hid (fun wx=>counts_any l.length (useOf kn 5) (useOf kn 6) HBD.out.2.2.2.2.2.1 HBD.out.2.2.2.2.2.2.1 wx)
  have H6:=Lib.hid (fun wx=>hasRoom_any (.int .i64 kn) (.int .i64 n) (.string (strB xs)) (.string (strB xt)) (.slice A0 ns.length c0) (.slice A1 l.length c1) A2 bs.length c2 (.int .u8 (useOf kn 0)) (.int .u8 (useOf kn 1)) (.int .u8 (useOf kn 2)) (.int .u8 (useOf kn 3)) (.int .u8 (useOf kn 4)) (.int .u8 (useOf kn 5)) (.int .u8 (useOf kn 6)) (useOf kn 7) wx)
  have H7:Hid (cntIn ns.length (useOf kn 3) (useOf kn 4)=true→∀ wx,Below w.heap.size w wx→Calls Tryz.prog 99 #[.agg #[.int .i64 kn,.int .i64 n,.string (strB xs),.string (strB xt),.slice A0 ns.length c0,.slice A1 l.length c1,.slice A2 bs.length c2,.int .u8 (useOf kn 0),.int .u8 (useOf kn 1),.int .u8 (useOf kn 2),.int .u8 (useOf kn 3),.int .u8 (useOf kn 4),.int .u8 (useOf kn 5),.int .u8 (useOf kn 6),.int .u8 (useOf kn 7)]] wx fun e w'=>e=.returned (.int .i64 (nmsErr kn ns))∧Below wx.heap.size wx w'):=Lib.hid (fun hq wx hb =>
   nodeNames_any kn (.int .i64 n) (.string (strB xs)) (.string (strB xt)) A0 c0 (.slice A1 l.length c1) (.slice A2 bs.length c2) _ _ _ _ _ _ _ _ ns wx (HN.out.keep (Same.of_below hb)) HF.out.hcn HF.out.hns (fun e=>by
    have e2:kn=17:=by omega
    subst e2
    unfold cntIn at hq
    simp only [Bool.and_eq_true,decide_eq_true_eq] at hq
    have h3:useOf 17 3=1:=by decide
    rw [h3] at hq
    omega))
  have H8:Hid (∀ wx,Below w.heap.size w wx→Calls Tryz.prog 100 #[.agg #[.int .i64 kn,.int .i64 n,.string (strB xs),.string (strB xt),.slice A0 ns.length c0,.slice A1 l.length c1,.slice A2 bs.length c2,.int .u8 (useOf kn 0),.int .u8 (useOf kn 1),.int .u8 (useOf kn 2),.int .u8 (useOf kn 3),.int .u8 (useOf kn 4),.int .u8 (useOf kn 5),.int .u8 (useOf kn 6),.int .u8 (useOf kn 7)]] wx fun e w'=>e=.returned (.int .i64 (armsErr (useOf kn 7) [] ops))∧Below wx.heap.size wx w'):=Lib.hid (fun wx hb=>by
   rw [← HO.out]
   exact checkArms_any (.int .i64 kn) (.int .i64 n) (.string (strB xs)) (.string (strB xt)) (.slice A0 ns.length c0) (.slice A1 l.length c1) A2 c2 _ _ _ _ _ _ _ (useOf kn 7) ops wx (HA.out.below hb) (by rw [HO.out];exact HF.out.hca))
  obtain ⟨q0,hq0⟩:∃ q,q=useOf kn 0:=⟨_,rfl⟩
  obtain ⟨q1,hq1⟩:∃ q,q=useOf kn 1:=⟨_,rfl⟩
  obtain ⟨q2,hq2⟩:∃ q,q=useOf kn 2:=⟨_,rfl⟩
  obtain ⟨q3,hq3⟩:∃ q,q=useOf kn 3:=⟨_,rfl⟩
  obtain ⟨q4,hq4⟩:∃ q,q=useOf kn 4:=⟨_,rfl⟩
  obtain ⟨q5,hq5⟩:∃ q,q=useOf kn 5:=⟨_,rfl⟩
  obtain ⟨q6,hq6⟩:∃ q,q=useOf kn 6:=⟨_,rfl⟩
  obtain ⟨q7,hq7⟩:∃ q,q=useOf kn 7:=⟨_,rfl⟩
  obtain ⟨S,hS⟩:∃ S,S=strB xs:=⟨_,rfl⟩
  obtain ⟨T,hT⟩:∃ T,T=strB xt:=⟨_,rfl⟩
  obtain ⟨m0,hm0⟩:∃ m,m=ns.length:=⟨_,rfl⟩
  obtain ⟨m1,hm1⟩:∃ m,m=l.length:=⟨_,rfl⟩
  obtain ⟨m2,hm2⟩:∃ m,m=bs.length:=⟨_,rfl⟩
  rw [← hq0,← hq1,← hq2,← hq3,← hq4,← hq5,← hq6,← hq7,← hS,← hT,← hm0,← hm1,← hm2] at H6 H7 H8
  rw [← hq0,← hq1,← hq2,← hq3,← hq4,← hq5,← hq6,← hq7,← hm0,← hm1,← hm2] at HRK
  rw [← hq0] at H1
  rw [← hq1,← hS] at H2
  rw [← hq2,← hT] at H3
  rw [← hq3,← hq4,← hm0] at H4
  rw [← hq5,← hq6,← hm1] at H5
  rw [← hS,← hT,← hm0,← hm1,← hm2] at HB0 ⊢
  obtain ⟨r1,hr1⟩:∃ r,r=numHas q0 n:=⟨_,rfl⟩
  rw [← hr1] at HRK H1
  obtain ⟨r2,hr2⟩:∃ r,r=nameHas q1 xs:=⟨_,rfl⟩
  rw [← hr2] at HRK H2
  obtain ⟨r3,hr3⟩:∃ r,r=nameHas q2 xt:=⟨_,rfl⟩
  rw [← hr3] at HRK H3
  obtain ⟨r4,hr4⟩:∃ r,r=cntIn m0 q3 q4:=⟨_,rfl⟩
  rw [← hr4] at HRK H4 H7
  obtain ⟨r5,hr5⟩:∃ r,r=cntIn m1 q5 q6:=⟨_,rfl⟩
  rw [← hr5] at HRK H5
  obtain ⟨r6,hr6⟩:∃ r,r=roomB m2 q7:=⟨_,rfl⟩
  rw [← hr6] at HRK H6
  obtain ⟨r7,hr7⟩:∃ r,r=nmsErr kn ns:=⟨_,rfl⟩
  rw [← hr7] at HRK H7
  obtain ⟨r8,hr8⟩:∃ r,r=armsErr q7 [] ops:=⟨_,rfl⟩
  rw [← hr8] at HRK H8
  obtain ⟨W2,hW2⟩:∃ W2,w.alloc (.cells #[.int .i64 (kn:Int),.int .i64 n,.string S,.string T,.slice A0 m0 c0,.slice A1 m1 c1,.slice A2 m2 c2] 27)=W2:=⟨_,rfl⟩
  have HE0:=Lib.hid (EB.new w (.int .i64 kn) (.int .i64 n) (.string S) (.string T) (.slice A0 m0 c0) (.slice A1 m1 c1) (.slice A2 m2 c2))
  rw [hW2] at HE0 HB0
  have HU2:=Lib.hid (HU.out.below HB0.out)
  have e0:=HE0.out.c0
  have e1:=HE0.out.c1
  have e2:=HE0.out.c2
  have e3:=HE0.out.c3
  have e4:=HE0.out.c4
  have e5:=HE0.out.c5
  have e6:=HE0.out.c6
  have hz2:=HE0.out.lt
  have g0:W2.cell? ⟨0,kn*8,none⟩=some (.int .u8 q0):=by rw [hq0];exact HU2.out.at kn hkn 0 (by omega)
  have g1:W2.cell? ⟨0,kn*8+1,none⟩=some (.int .u8 q1):=by rw [hq1];exact HU2.out.at kn hkn 1 (by omega)
  have g2:W2.cell? ⟨0,kn*8+2,none⟩=some (.int .u8 q2):=by rw [hq2];exact HU2.out.at kn hkn 2 (by omega)
  have g3:W2.cell? ⟨0,kn*8+3,none⟩=some (.int .u8 q3):=by rw [hq3];exact HU2.out.at kn hkn 3 (by omega)
  have g4:W2.cell? ⟨0,kn*8+4,none⟩=some (.int .u8 q4):=by rw [hq4];exact HU2.out.at kn hkn 4 (by omega)
  have g5:W2.cell? ⟨0,kn*8+5,none⟩=some (.int .u8 q5):=by rw [hq5];exact HU2.out.at kn hkn 5 (by omega)
  have g6:W2.cell? ⟨0,kn*8+6,none⟩=some (.int .u8 q6):=by rw [hq6];exact HU2.out.at kn hkn 6 (by omega)
  have g7:W2.cell? ⟨0,kn*8+7,none⟩=some (.int .u8 q7):=by rw [hq7];exact HU2.out.at kn hkn 7 (by omega)
  have hlt1:0 < W2.heap.size:=by
   obtain ⟨_,_,h⟩:=HU2.out
   exact (Array.getElem?_eq_some_iff.1 h).1
  have HNB:=Lib.hid (NB.new W2 [.int .i64 kn,.int .i64 n,.string S,.string T,.slice A0 m0 c0,.slice A1 m1 c1,.slice A2 m2 c2,.int .u8 q0,.int .u8 q1,.int .u8 q2,.int .u8 q3,.int .u8 q4,.int .u8 q5,.int .u8 q6,.int .u8 q7] 133)
  have HBX:Hid (Below w.heap.size w (W2.alloc (.cells #[.int .i64 kn,.int .i64 n,.string S,.string T,.slice A0 m0 c0,.slice A1 m1 c1,.slice A2 m2 c2,.int .u8 q0,.int .u8 q1,.int .u8 q2,.int .u8 q3,.int .u8 q4,.int .u8 q5,.int .u8 q6,.int .u8 q7] 133)).drew):=Lib.hid (HB0.out.alloc HB0.out.size _).drew
  have i2:decide ((kn:Int) < 0)=false:=by simp
  have i3:decide (20≤(kn:Int))=false:=by simp;omega
  clear hq0 hq1 hq2 hq3 hq4 hq5 hq6 hq7 hS hT hm0 hm1 hm2 hr1 hr2 hr3 hr4 hr5 hr6 hr7 hr8 HBD HN HA HF HO HU hkn
  go_enter Tryz.func65,Tryz.ntmps65
  go_wp2_with fail
  clear hW2
  go_region
  obtain ⟨W3,hW3⟩:∃ W3,(W2.alloc (.cells #[.int .i64 kn,.int .i64 n,.string S,.string T,.slice A0 m0 c0,.slice A1 m1 c1,.slice A2 m2 c2,.int .u8 q0,.int .u8 q1,.int .u8 q2,.int .u8 q3,.int .u8 q4,.int .u8 q5,.int .u8 q6,.int .u8 q7] 133)).drew=W3:=⟨_,rfl⟩
  rw [hW3] at HNB HBX ⊢
  clear hW3 e0 e1 e2 e3 e4 e5 e6 g0 g1 g2 g3 g4 g5 g6 g7 hlt1 hz2 HE0 HU2
  have f0:W3.cell? ⟨W2.heap.size,0,none⟩=some (.int .i64 kn):=HNB.out.1 0 _ rfl
  have f1:W3.cell? ⟨W2.heap.size,1,none⟩=some (.int .i64 n):=HNB.out.1 1 _ rfl
  have f2:W3.cell? ⟨W2.heap.size,2,none⟩=some (.string S):=HNB.out.1 2 _ rfl
  have f3:W3.cell? ⟨W2.heap.size,3,none⟩=some (.string T):=HNB.out.1 3 _ rfl
  have f4:W3.cell? ⟨W2.heap.size,4,none⟩=some (.slice A0 m0 c0):=HNB.out.1 4 _ rfl
  have f5:W3.cell? ⟨W2.heap.size,5,none⟩=some (.slice A1 m1 c1):=HNB.out.1 5 _ rfl
  have f6:W3.cell? ⟨W2.heap.size,6,none⟩=some (.slice A2 m2 c2):=HNB.out.1 6 _ rfl
  have f7:W3.cell? ⟨W2.heap.size,7,none⟩=some (.int .u8 q0):=HNB.out.1 7 _ rfl
  have f8:W3.cell? ⟨W2.heap.size,8,none⟩=some (.int .u8 q1):=HNB.out.1 8 _ rfl
  have f9:W3.cell? ⟨W2.heap.size,9,none⟩=some (.int .u8 q2):=HNB.out.1 9 _ rfl
  have f10:W3.cell? ⟨W2.heap.size,10,none⟩=some (.int .u8 q3):=HNB.out.1 10 _ rfl
  have f11:W3.cell? ⟨W2.heap.size,11,none⟩=some (.int .u8 q4):=HNB.out.1 11 _ rfl
  have f12:W3.cell? ⟨W2.heap.size,12,none⟩=some (.int .u8 q5):=HNB.out.1 12 _ rfl
  have f13:W3.cell? ⟨W2.heap.size,13,none⟩=some (.int .u8 q6):=HNB.out.1 13 _ rfl
  have f14:W3.cell? ⟨W2.heap.size,14,none⟩=some (.int .u8 q7):=HNB.out.1 14 _ rfl
  cases r1
  ·have HR2:Hid (R=1):=Lib.hid (by rw [HRK.out,if_pos rfl])
   go_wp2_with fail
   refine (H1.out _).mono ?_
   rintro e w' ⟨rfl,rfl⟩
   go_wp2_with fail
   go_ret
   exact ⟨by rw [HR2.out];rfl,HBX.out⟩
  rw [if_neg (by simp)] at HRK
  go_wp2_with fail
  refine (H1.out _).mono ?_
  rintro e w' ⟨rfl,rfl⟩
  go_wp2_with fail
  refine (H2.out _).mono ?_
  rintro e W4 ⟨rfl,hb⟩
  have HB4:=Lib.hid (HBX.out.trans (hb.mono HBX.out.size))
  have HN4:=Lib.hid (HNB.out.below hb)
  clear hb HBX HNB f0 f1 f2 f3 f4 f5 f6 f7 f8 f9 f10 f11 f12 f13 f14
  have f0:W4.cell? ⟨W2.heap.size,0,none⟩=some (.int .i64 kn):=HN4.out.1 0 _ rfl
  have f1:W4.cell? ⟨W2.heap.size,1,none⟩=some (.int .i64 n):=HN4.out.1 1 _ rfl
  have f2:W4.cell? ⟨W2.heap.size,2,none⟩=some (.string S):=HN4.out.1 2 _ rfl
  have f3:W4.cell? ⟨W2.heap.size,3,none⟩=some (.string T):=HN4.out.1 3 _ rfl
  have f4:W4.cell? ⟨W2.heap.size,4,none⟩=some (.slice A0 m0 c0):=HN4.out.1 4 _ rfl
  have f5:W4.cell? ⟨W2.heap.size,5,none⟩=some (.slice A1 m1 c1):=HN4.out.1 5 _ rfl
  have f6:W4.cell? ⟨W2.heap.size,6,none⟩=some (.slice A2 m2 c2):=HN4.out.1 6 _ rfl
  have f7:W4.cell? ⟨W2.heap.size,7,none⟩=some (.int .u8 q0):=HN4.out.1 7 _ rfl
  have f8:W4.cell? ⟨W2.heap.size,8,none⟩=some (.int .u8 q1):=HN4.out.1 8 _ rfl
  have f9:W4.cell? ⟨W2.heap.size,9,none⟩=some (.int .u8 q2):=HN4.out.1 9 _ rfl
  have f10:W4.cell? ⟨W2.heap.size,10,none⟩=some (.int .u8 q3):=HN4.out.1 10 _ rfl
  have f11:W4.cell? ⟨W2.heap.size,11,none⟩=some (.int .u8 q4):=HN4.out.1 11 _ rfl
  have f12:W4.cell? ⟨W2.heap.size,12,none⟩=some (.int .u8 q5):=HN4.out.1 12 _ rfl
  have f13:W4.cell? ⟨W2.heap.size,13,none⟩=some (.int .u8 q6):=HN4.out.1 13 _ rfl
  have f14:W4.cell? ⟨W2.heap.size,14,none⟩=some (.int .u8 q7):=HN4.out.1 14 _ rfl
  cases r2
  ·have HR2:Hid (R=4):=Lib.hid (by rw [HRK.out,if_pos rfl])
   go_wp2_with fail
   go_ret
   exact ⟨by rw [HR2.out];rfl,HB4.out⟩
  rw [if_neg (by simp)] at HRK
  go_wp2_with fail
  refine (H3.out _).mono ?_
  rintro e W5 ⟨rfl,hb⟩
  have HB5:=Lib.hid (HB4.out.trans (hb.mono HB4.out.size))
  have HN5:=Lib.hid (HN4.out.below hb)
  clear hb HB4 HN4 f0 f1 f2 f3 f4 f5 f6 f7 f8 f9 f10 f11 f12 f13 f14
  have f0:W5.cell? ⟨W2.heap.size,0,none⟩=some (.int .i64 kn):=HN5.out.1 0 _ rfl
  have f1:W5.cell? ⟨W2.heap.size,1,none⟩=some (.int .i64 n):=HN5.out.1 1 _ rfl
  have f2:W5.cell? ⟨W2.heap.size,2,none⟩=some (.string S):=HN5.out.1 2 _ rfl
  have f3:W5.cell? ⟨W2.heap.size,3,none⟩=some (.string T):=HN5.out.1 3 _ rfl
  have f4:W5.cell? ⟨W2.heap.size,4,none⟩=some (.slice A0 m0 c0):=HN5.out.1 4 _ rfl
  have f5:W5.cell? ⟨W2.heap.size,5,none⟩=some (.slice A1 m1 c1):=HN5.out.1 5 _ rfl
  have f6:W5.cell? ⟨W2.heap.size,6,none⟩=some (.slice A2 m2 c2):=HN5.out.1 6 _ rfl
  have f7:W5.cell? ⟨W2.heap.size,7,none⟩=some (.int .u8 q0):=HN5.out.1 7 _ rfl
  have f8:W5.cell? ⟨W2.heap.size,8,none⟩=some (.int .u8 q1):=HN5.out.1 8 _ rfl
  have f9:W5.cell? ⟨W2.heap.size,9,none⟩=some (.int .u8 q2):=HN5.out.1 9 _ rfl
  have f10:W5.cell? ⟨W2.heap.size,10,none⟩=some (.int .u8 q3):=HN5.out.1 10 _ rfl
  have f11:W5.cell? ⟨W2.heap.size,11,none⟩=some (.int .u8 q4):=HN5.out.1 11 _ rfl
  have f12:W5.cell? ⟨W2.heap.size,12,none⟩=some (.int .u8 q5):=HN5.out.1 12 _ rfl
  have f13:W5.cell? ⟨W2.heap.size,13,none⟩=some (.int .u8 q6):=HN5.out.1 13 _ rfl
  have f14:W5.cell? ⟨W2.heap.size,14,none⟩=some (.int .u8 q7):=HN5.out.1 14 _ rfl
  cases r3
  ·have HR2:Hid (R=4):=Lib.hid (by rw [HRK.out,if_pos rfl])
   go_wp2_with fail
   go_ret
   exact ⟨by rw [HR2.out];rfl,HB5.out⟩
  rw [if_neg (by simp)] at HRK
  go_wp2_with fail
  refine (H4.out _).mono ?_
  rintro e w' ⟨rfl,rfl⟩
  cases r4
  ·have HR2:Hid (R=7):=Lib.hid (by rw [HRK.out,if_pos rfl])
   go_wp2_with fail
   go_ret
   exact ⟨by rw [HR2.out];rfl,HB5.out⟩
  rw [if_neg (by simp)] at HRK
  have H7':=Lib.hid (H7.out rfl)
  clear H7
  go_wp2_with fail
  refine (H5.out _).mono ?_
  rintro e w' ⟨rfl,rfl⟩
  cases r5
  ·have HR2:Hid (R=7):=Lib.hid (by rw [HRK.out,if_pos rfl])
   go_wp2_with fail
   go_ret
   exact ⟨by rw [HR2.out];rfl,HB5.out⟩
  rw [if_neg (by simp)] at HRK
  go_wp2_with fail
  refine (H6.out _).mono ?_
  rintro e W6 ⟨rfl,hb⟩
  have HB6:=Lib.hid (HB5.out.trans (hb.mono HB5.out.size))
  have HN6:=Lib.hid (HN5.out.below hb)
  clear hb HB5 HN5 f0 f1 f2 f3 f4 f5 f6 f7 f8 f9 f10 f11 f12 f13 f14
  have f0:W6.cell? ⟨W2.heap.size,0,none⟩=some (.int .i64 kn):=HN6.out.1 0 _ rfl
  have f1:W6.cell? ⟨W2.heap.size,1,none⟩=some (.int .i64 n):=HN6.out.1 1 _ rfl
  have f2:W6.cell? ⟨W2.heap.size,2,none⟩=some (.string S):=HN6.out.1 2 _ rfl
  have f3:W6.cell? ⟨W2.heap.size,3,none⟩=some (.string T):=HN6.out.1 3 _ rfl
  have f4:W6.cell? ⟨W2.heap.size,4,none⟩=some (.slice A0 m0 c0):=HN6.out.1 4 _ rfl
  have f5:W6.cell? ⟨W2.heap.size,5,none⟩=some (.slice A1 m1 c1):=HN6.out.1 5 _ rfl
  have f6:W6.cell? ⟨W2.heap.size,6,none⟩=some (.slice A2 m2 c2):=HN6.out.1 6 _ rfl
  have f7:W6.cell? ⟨W2.heap.size,7,none⟩=some (.int .u8 q0):=HN6.out.1 7 _ rfl
  have f8:W6.cell? ⟨W2.heap.size,8,none⟩=some (.int .u8 q1):=HN6.out.1 8 _ rfl
  have f9:W6.cell? ⟨W2.heap.size,9,none⟩=some (.int .u8 q2):=HN6.out.1 9 _ rfl
  have f10:W6.cell? ⟨W2.heap.size,10,none⟩=some (.int .u8 q3):=HN6.out.1 10 _ rfl
  have f11:W6.cell? ⟨W2.heap.size,11,none⟩=some (.int .u8 q4):=HN6.out.1 11 _ rfl
  have f12:W6.cell? ⟨W2.heap.size,12,none⟩=some (.int .u8 q5):=HN6.out.1 12 _ rfl
  have f13:W6.cell? ⟨W2.heap.size,13,none⟩=some (.int .u8 q6):=HN6.out.1 13 _ rfl
  have f14:W6.cell? ⟨W2.heap.size,14,none⟩=some (.int .u8 q7):=HN6.out.1 14 _ rfl
  cases r6
  ·have HR2:Hid (R=7):=Lib.hid (by rw [HRK.out,if_pos rfl])
   go_wp2_with fail
   go_ret
   exact ⟨by rw [HR2.out];rfl,HB6.out⟩
  rw [if_neg (by simp)] at HRK
  go_wp2_with fail
  refine (H7'.out _ HB6.out).mono ?_
  rintro e W7 ⟨rfl,hb⟩
  have HB7:=Lib.hid (HB6.out.trans (hb.mono HB6.out.size))
  have HN7:=Lib.hid (HN6.out.below hb)
  clear hb HB6 HN6 f0 f1 f2 f3 f4 f5 f6 f7 f8 f9 f10 f11 f12 f13 f14
  by_cases h7:r7=0
  ·subst h7
   rw [if_pos rfl] at HRK
   have f0:W7.cell? ⟨W2.heap.size,0,none⟩=some (.int .i64 kn):=HN7.out.1 0 _ rfl
   have f1:W7.cell? ⟨W2.heap.size,1,none⟩=some (.int .i64 n):=HN7.out.1 1 _ rfl
   have f2:W7.cell? ⟨W2.heap.size,2,none⟩=some (.string S):=HN7.out.1 2 _ rfl
   have f3:W7.cell? ⟨W2.heap.size,3,none⟩=some (.string T):=HN7.out.1 3 _ rfl
   have f4:W7.cell? ⟨W2.heap.size,4,none⟩=some (.slice A0 m0 c0):=HN7.out.1 4 _ rfl
   have f5:W7.cell? ⟨W2.heap.size,5,none⟩=some (.slice A1 m1 c1):=HN7.out.1 5 _ rfl
   have f6:W7.cell? ⟨W2.heap.size,6,none⟩=some (.slice A2 m2 c2):=HN7.out.1 6 _ rfl
   have f7:W7.cell? ⟨W2.heap.size,7,none⟩=some (.int .u8 q0):=HN7.out.1 7 _ rfl
   have f8:W7.cell? ⟨W2.heap.size,8,none⟩=some (.int .u8 q1):=HN7.out.1 8 _ rfl
   have f9:W7.cell? ⟨W2.heap.size,9,none⟩=some (.int .u8 q2):=HN7.out.1 9 _ rfl
   have f10:W7.cell? ⟨W2.heap.size,10,none⟩=some (.int .u8 q3):=HN7.out.1 10 _ rfl
   have f11:W7.cell? ⟨W2.heap.size,11,none⟩=some (.int .u8 q4):=HN7.out.1 11 _ rfl
   have f12:W7.cell? ⟨W2.heap.size,12,none⟩=some (.int .u8 q5):=HN7.out.1 12 _ rfl
   have f13:W7.cell? ⟨W2.heap.size,13,none⟩=some (.int .u8 q6):=HN7.out.1 13 _ rfl
   have f14:W7.cell? ⟨W2.heap.size,14,none⟩=some (.int .u8 q7):=HN7.out.1 14 _ rfl
   go_wp2_with fail
   refine (H8.out _ HB7.out).mono ?_
   rintro e W8 ⟨rfl,hb⟩
   have HB8:=Lib.hid (HB7.out.trans (hb.mono HB7.out.size))
   clear hb
   go_wp2_with fail
   go_ret
   exact ⟨by rw [HRK.out];rfl,HB8.out⟩
  ·have h7b:(r7 == 0)=false:=by simpa using h7
   rw [if_neg h7] at HRK
   clear h7
   go_wp2_with fail
   go_ret
   exact ⟨by rw [HRK.out];rfl,HB7.out⟩
 ·have HR2:Hid (R=1):=Lib.hid (by rw [HR.out];unfold chkN;exact if_neg hk)
  clear HN HA HF HO HU
  by_cases h0:k < 0
  ·go_enter Tryz.func65,Tryz.ntmps65
   go_wp2_with fail
   go_ret
   exact ⟨by rw [HR2.out];rfl,HB0.out⟩
  ·have g1:decide (k < 0)=false:=by simpa using h0
   have g2:decide (20≤k)=true:=by simp;omega
   clear hk h0
   go_enter Tryz.func65,Tryz.ntmps65
   go_wp2_with fail
   go_ret
   exact ⟨by rw [HR2.out];rfl,HB0.out⟩
end Go.Proofs.YtpjabnemkmdobaaGreatDoor
