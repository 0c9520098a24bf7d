/- The card of SyntaxBack: for every expression that comes in, the call returns true. Conditions: the listed variables lie as the program's text lays them. Texts put together by program: Frame Laid CBk. -/
import Derived.Test.YtpjabnemkmdobaaGreatDoorMgL
import Derived.Test.YtpjabnemkmdobaaGreatDoorTie
import Derived.Test.YtpjabnemkmdobaaGreatDoorCards
import Derived.ProofKit
import Derived.LaidMore
import Derived.OpenShut
import Derived.Stop.Joined
import Derived.SevenTiedAt
import Derived.Lib.LaidTab
import Derived.Test.YtpjabnemkmdobaaGreatDoorMgN
import Derived.SizedLaws
import Derived.Carry
namespace Go.Proofs.YtpjabnemkmdobaaGreatDoor
open Go.ChangeShapes Go.WideShapes Go.ChangeAt Go.WideMaps Go.WideElems Go.RowKit
theorem own:ownKnob Tryz.prog.godebug=none:=by kernel_rfl
abbrev laidAll:List (String × DataW Unit):=[("math/bits.deBruijn32tab",Rows.laid_math_bits_deBruijn32tab),("math/bits.deBruijn64tab",Rows.laid_math_bits_deBruijn64tab),("internal/strconv.uint64pow10",Rows.laid_internal_strconv_uint64pow10),("reprise/lexer.symbols",Rows.laid_reprise_lexer_symbols),("reprise/syntax.exprUses",Rows.laid_reprise_syntax_exprUses)]
theorem door_met (os:Os)(args:Array Value):laidMetH Tryz.prog laidAll ((World.doorLaid Tryz.prog 400 os).forCall (fun _ _=>0) ⟨#[],args,[]⟩).memory :=
 laidMetH_of_parts3 (fuel:=8) (laidMet_of_run' 8 (by kernel_rfl) (by kernel_rfl)) (by kernel_rfl) (by kernel_rfl)
end Go.Proofs.YtpjabnemkmdobaaGreatDoor
namespace Go.Proofs.YtpjabnemkmdobaaGreatDoor
open Go.ChangeShapes Go.WideShapes Go.ChangeAt Go.WideMaps Go.WideElems Go.RowKit
theorem gSym:Tryz.prog.globalNamed "reprise/lexer.symbols"=some 1:=by kernel_rfl
theorem gTab:Tryz.prog.globalNamed "internal/strconv.uint64pow10"=some 3:=by kernel_rfl
theorem gUses:Tryz.prog.globalNamed "reprise/syntax.exprUses"=some 0:=by kernel_rfl
theorem tSym:(Tryz.prog.globals[1]?).map (·.type)=some 163:=by kernel_rfl
theorem tTab:(Tryz.prog.globals[3]?).map (·.type)=some 188:=by kernel_rfl
theorem tUses:(Tryz.prog.globals[0]?).map (·.type)=some 131:=by kernel_rfl
set_option maxRecDepth 100000 in
theorem cells_of_strs {H:Type}{enc:TypeId × Value→H}{w:World}{base:Nat}{sp:Nat→Bool}{held:Bool}{fuel:Nat}{cs:List Value}{p:List MemPlace}
  (h:DataW.trod enc Tryz.prog w base sp held fuel 163 cs=some (.agg (symList.map fun l=>.lit (.string l)),p)):cs=symList.map fun l=>Value.string (strB l):=by
 obtain ⟨xs,m,_,hx,hlen,hn,hel⟩:=DataW.trod_array Tryz.underlying163 h
 have c9:Tryz.prog.cellsOf 9=1:=by kernel_rfl
 have c83:Tryz.prog.cellsOf 163=20:=by kernel_rfl
 rw [c83] at hlen
 simp only [Prod.mk.injEq,DataW.agg.injEq] at hx
 obtain ⟨hx1,_⟩:=hx
 apply List.ext_getElem?
 intro i
 by_cases hi:i < 20
 ·have hsi:i < symList.length:=hi
  have h1:=hel i hi
  rw [c9,Nat.mul_one] at h1
  have hci:i < cs.length:=by omega
  rw [List.drop_eq_getElem_cons hci] at h1
  have hxi:i < xs.length:=by omega
  rw [List.getElem?_eq_getElem hxi] at h1
  obtain ⟨s,e1,e2,_⟩:=DataW.trod_string Tryz.underlying9 (show DataW.trod enc Tryz.prog w base sp held m 9 [cs[i]]=some xs[i] from h1)
  have h3:=congrArg (fun l=>l[i]?) hx1
  simp only [List.getElem?_map,List.getElem?_eq_getElem hsi,List.getElem?_eq_getElem hxi,Option.map_some,Option.some.injEq] at h3
  rw [e2] at h3
  rw [List.getElem?_eq_getElem hci,List.getElem?_map,List.getElem?_eq_getElem hsi,Option.map_some]
  simp only [List.cons.injEq] at e1
  rw [e1.1]
  generalize symList[i]=y at h3 ⊢
  have h4:s.data.toList=y:=by simp only [DataW.lit.injEq,Lit.string.injEq] at h3;exact h3.symm
  rw [← h4,strB_data]
 ·rw [List.getElem?_eq_none (by omega),List.getElem?_eq_none (by rw [List.length_map];show 20≤i;omega)]
theorem heap_of_var {W:World}{n:String}{g:Nat}{cs:Array Value}(hg:Tryz.prog.globalNamed n=some g)(h:W.var? Tryz.prog n=some cs):∃ t fr,W.heap[g]?=some (.cells cs t fr):=by
 simp only [World.var?,hg,Option.bind_some] at h
 split at h
 ·injection h with h;subst h;exact ⟨_,_,‹_›⟩
 ·cases h
theorem trod_u8 {H:Type}{enc:TypeId × Value→H}{w:World}{base:Nat}{sp:Nat→Bool}{held:Bool}{f:Nat}{t:TypeId}{c:Value}{n:Int}{y:DataW H × List MemPlace}(ht:Tryz.prog.underlying t=some (.int .u8))(h:DataW.trod enc Tryz.prog w base sp held f t [c]=some y)(hy:y.1=.lit (.int .u8 n)):c=.int .u8 n:=by
 obtain ⟨m,e,rfl,_⟩:=DataW.trod_int ht h
 simp only [List.cons.injEq,and_true] at e
 simp only [DataW.lit.injEq,Lit.int.injEq,true_and] at hy
 rw [e,hy]
set_option maxRecDepth 100000 in
theorem uses_row {H:Type}{enc:TypeId × Value→H}{w:World}{base:Nat}{sp:Nat→Bool}{held:Bool}{f:Nat}{cs:List Value}{x:DataW H × List MemPlace}{l:List Int}(h8:cs.length=8)
  (h:DataW.trod enc Tryz.prog w base sp held f 130 cs=some x) (hx:x.1=.agg (l.map fun n=>.lit (.int .u8 n))):cs=l.map fun n=>Value.int .u8 n:=by
 obtain ⟨xs,m,_,rfl,_,hxl,hf⟩:=DataW.trod_struct Tryz.underlying130 h
 have hxl8:xs.length=8:=hxl
 have kN:Tryz.prog.cellsOf 126=1:=by kernel_rfl
 have kS:Tryz.prog.cellsOf 127=1:=by kernel_rfl
 have kA:Tryz.prog.cellsOf 128=1:=by kernel_rfl
 have kU:Tryz.prog.cellsOf 5=1:=by kernel_rfl
 simp only [DataW.agg.injEq] at hx
 have hll:l.length=8:=by have:=congrArg List.length hx;rw [List.length_map,List.length_map] at this;omega
 match cs,h8,xs,hxl8,l,hll with
 | [c0,c1,c2,c3,c4,c5,c6,c7],_,[y0,y1,y2,y3,y4,y5,y6,y7],_,[n0,n1,n2,n3,n4,n5,n6,n7],_ =>
  simp only [List.map_cons,List.map_nil,List.cons.injEq,and_true] at hx
  obtain ⟨x0,x1,x2,x3,x4,x5,x6,x7⟩:=hx
  have f0:DataW.trod enc Tryz.prog w base sp held m 126 [c0]=some y0:=by have:=hf 0 _ rfl;simpa [kN] using this
  have f1:DataW.trod enc Tryz.prog w base sp held m 127 [c1]=some y1:=by have:=hf 1 _ rfl;simpa [kS] using this
  have f2:DataW.trod enc Tryz.prog w base sp held m 127 [c2]=some y2:=by have:=hf 2 _ rfl;simpa [kS] using this
  have f3:DataW.trod enc Tryz.prog w base sp held m 5 [c3]=some y3:=by have:=hf 3 _ rfl;simpa [kU] using this
  have f4:DataW.trod enc Tryz.prog w base sp held m 5 [c4]=some y4:=by have:=hf 4 _ rfl;simpa [kU] using this
  have f5:DataW.trod enc Tryz.prog w base sp held m 5 [c5]=some y5:=by have:=hf 5 _ rfl;simpa [kU] using this
  have f6:DataW.trod enc Tryz.prog w base sp held m 5 [c6]=some y6:=by have:=hf 6 _ rfl;simpa [kU] using this
  have f7:DataW.trod enc Tryz.prog w base sp held m 128 [c7]=some y7:=by have:=hf 7 _ rfl;simpa [kA] using this
  rw [trod_u8 Tryz.underlying126 f0 x0,trod_u8 Tryz.underlying127 f1 x1,trod_u8 Tryz.underlying127 f2 x2,trod_u8 Tryz.underlying5 f3 x3,trod_u8 Tryz.underlying5 f4 x4,trod_u8 Tryz.underlying5 f5 x5,trod_u8 Tryz.underlying5 f6 x6,trod_u8 Tryz.underlying128 f7 x7]
  rfl
set_option maxRecDepth 100000 in
theorem cells_of_uses {H:Type}{enc:TypeId × Value→H}{w:World}{base:Nat}{sp:Nat→Bool}{held:Bool}{fuel:Nat}{cs:List Value}{p:List MemPlace}
  (h:DataW.trod enc Tryz.prog w base sp held fuel 131 cs=some (.agg (usesTab.map fun r=>.agg (r.map fun n=>.lit (.int .u8 n))),p)):cs=usesVals:=by
 obtain ⟨xs,m,_,hx,hlen,hn,hel⟩:=DataW.trod_array Tryz.underlying131 h
 have c8:Tryz.prog.cellsOf 130=8:=by kernel_rfl
 have c160:Tryz.prog.cellsOf 131=160:=by kernel_rfl
 rw [c160] at hlen
 simp only [Prod.mk.injEq,DataW.agg.injEq] at hx
 obtain ⟨hx1,_⟩:=hx
 have hrow:∀ i,i < 20→(cs.drop (i*8)).take 8=(usesTab.getD i []).map fun n=>Value.int .u8 n:=fun i hi=>by
  have hsi:i < usesTab.length:=hi
  have hxi:i < xs.length:=by omega
  have h1:=hel i hi
  rw [c8,List.getElem?_eq_getElem hxi] at h1
  have h3:=congrArg (fun l=>l[i]?) hx1
  simp only [List.getElem?_map,List.getElem?_eq_getElem hsi,List.getElem?_eq_getElem hxi,Option.map_some,Option.some.injEq] at h3
  rw [List.getD_eq_getElem?_getD,List.getElem?_eq_getElem hsi,Option.getD_some]
  exact uses_row (by rw [List.length_take,List.length_drop];omega) h1 h3.symm
 have hut:∀ i,i < 20→∀ k,k < 8→((usesTab.getD i []).map fun n=>Value.int .u8 n)[k]?=some (.int .u8 (useOf i k)):=fun i hi k hk=>by
  have h:∀ i,i < 20→∀ k,k < 8→(usesTab.getD i [])[k]?=some (useOf i k):=by decide
  rw [List.getElem?_map,h i hi k hk];rfl
 apply List.ext_getElem?
 intro j
 by_cases hj:j < 160
 ·have h1:=hrow (j / 8) (by omega)
  have h2:=hut (j / 8) (by omega) (j % 8) (by omega)
  have h3:=usesVals_at (j / 8) (by omega) (j % 8) (by omega)
  rw [← h1,List.getElem?_take,if_pos (by omega),List.getElem?_drop] at h2
  rw [show j / 8*8+j % 8=j by omega] at h2 h3
  rw [h2,h3]
 ·rw [List.getElem?_eq_none (by omega),List.getElem?_eq_none (by have:usesVals.length=160:=(by decide);omega)]
set_option maxRecDepth 100000 in
theorem env_of_laid {W:World}(h:laidMetH Tryz.prog laidAll W):EnvS W:=by
 rw [MakeChecks.laidMetH_plain _ _ _ (by kernel_rfl)] at h
 obtain ⟨ps,⟨g0,t0,cs0,f0,p0,q0,hg0,ht0,hv0,hd0,⟨g1,t1,cs1,f1,p1,q1,hg1,ht1,hv1,hd1,⟨g2,t2,cs2,f2,p2,q2,hg2,ht2,hv2,hd2,⟨g3,t3,cs3,f3,p3,q3,hg3,ht3,hv3,hd3,⟨g4,t4,cs4,f4,p4,q4,hg4,ht4,hv4,hd4,_,_⟩,_⟩,_⟩,_⟩,_⟩,_,_⟩:=h
 obtain rfl:=Option.some.inj (gTab.symm.trans hg2)
 obtain rfl:=Option.some.inj (gSym.symm.trans hg3)
 obtain rfl:=Option.some.inj (gUses.symm.trans hg4)
 obtain rfl:=Option.some.inj (tTab.symm.trans ht2)
 obtain rfl:=Option.some.inj (tSym.symm.trans ht3)
 obtain rfl:=Option.some.inj (tUses.symm.trans ht4)
 refine ⟨?_,?_,?_⟩
 ·obtain ⟨t,fr,hh⟩:=heap_of_var gSym hv3
  have:=cells_of_strs hd3
  refine ⟨t,fr,?_⟩
  rw [hh]
  unfold symVals
  rw [← this]
 ·obtain ⟨t,fr,hh⟩:=heap_of_var gUses hv4
  have:=cells_of_uses hd4
  refine ⟨t,fr,?_⟩
  rw [hh,← this]
 ·obtain ⟨t,fr,hh⟩:=heap_of_var gTab hv2
  refine ⟨t,fr,?_⟩
  rw [hh]
  have:=Lib.cells_of_tab (k:=.u64) (zs:=Lib.pow10Tab) Tryz.underlying188 Tryz.underlying178 (by kernel_rfl) (by kernel_rfl) hd2
  rw [← this]
end Go.Proofs.YtpjabnemkmdobaaGreatDoor
namespace Go.Proofs.YtpjabnemkmdobaaGreatDoor.syntaxBack
open Go.ChangeShapes Go.WideShapes Go.ChangeAt Go.WideMaps Go.WideElems Go.RowKit
set_option maxRecDepth 100000 in
theorem lifted (os:Os)(started:os.Started)(H:Type)(enc:TypeId × Value→H) :
  ReturnsInHanded {} Tryz.checked os 3 .any (fun w args=>(Rows.syntaxBackSpec.pre enc Tryz.prog Tryz.f3 [] false w args∧laidMetH Tryz.prog laidAll w)∧sizedMet enc Tryz.prog Tryz.f3 (OpenSpec.ofChange Rows.syntaxBackSpec) false w args)
   (Rows.syntaxBackSpec.post enc Tryz.prog Tryz.f3 false true false false):=by
 refine returnsInHanded_of_change_and (C:=Tryz.checked) (X:=fun w _=>laidMetH Tryz.prog laidAll w) (fun _ _ _ hh h=>h.of_heap hh) own started (by kernel_rfl) Tryz.func3
  (ChangeSpec.witness_shaped (enc:=enc) (C:=Tryz.checked) (os:=os) (X:=fun w _=>laidMetH Tryz.prog laidAll w) false (World.doorLaid Tryz.prog 400 os) #[.agg #[.int .i64 0,.int .i64 0,.string ByteArray.empty,.string ByteArray.empty,.slice none 0 0,.slice none 0 0,.slice none 0 0]] 8 rfl (World.shaped_of_RefB (by kernel_rfl) (by kernel_rfl)) (by kernel_rfl) (by kernel_rfl) (by kernel_rfl) (door_met os _)) ?_
 intro W base args ds gs before hval0 hW _ hsz hL _
 have hval:∀ (j:Nat) t v,Tryz.f3.params[j]?=some t→args[j]?=some v→Value.okWide Tryz.prog W .any base t v:=hval0
 have hW':=hW
 obtain ⟨p,q,hA0,hV,rfl,hfz,hnd⟩:=hW
 have hA:DataW.TrodAll enc Tryz.prog W 0 (fun _=>true) true Tryz.f3.params.toList args.toList ds p:=hA0
 rw [Tryz.params3] at hA hval hsz
 obtain ⟨v0,vs0,d0,ds0,p0,q0,hargs,rfl,rfl,h0,r0⟩:=trodAll_cons hA
 obtain ⟨rfl,rfl,rfl⟩:=trodAll_nil r0
 obtain rfl:args=#[v0]:=by cases args;simp_all
 obtain ⟨rfl,rfl⟩:=trodVars_none hV
 obtain ⟨cs0,rfl,hsz0⟩:=okWide_struct Tryz.underlying27 (hval 0 27 v0 rfl rfl)
 obtain ⟨e0,h70,hre0⟩:=open_expr h0
 have hre0':RepE (fun _=>True) W e0 cs0.toList:=hre0
 obtain ⟨k,n,s,t,ns,l,ops,bs⟩:=e0
 obtain ⟨A0,c0,A1,c1,A2,c2,hcs,_⟩:=hre0'
 have hce:cs0=#[.int .i64 k,.int .i64 n,.string (strB s),.string (strB t),.slice A0 ns.length c0,.slice A1 l.length c1,.slice A2 bs.length c2]:=by
  apply Array.toList_inj.1
  rw [show cs0.toList=_ from hcs]
  rfl
 subst hce
 clear hA0 hval0 hcs
 simp only [List.append_nil] at hW'
 refine (back_law (.mk k n s t ns l ops bs) k n (strB s) (strB t) A0 ns.length c0 A1 l.length c1 A2 bs.length c2 W hre0 (env_of_laid hL)).mono fun e W' ⟨he,hb⟩=>?_
 subst he
 exact ⟨_,rfl,_,_,_,[],(p0++[]),[],hW',(trodAll_cons_mk (shut_bool Tryz.underlying4 _) trodAll_mk0),(trodAll_cons_mk (Below.trod (by kernel_rfl) (by kernel_rfl) (of_decide_eq_true (by kernel_rfl)) h0 hb (fun x hx=>by have:=hW'.lt x (by simp [hx]);simpa using this)) trodAll_mk0),rfl,hb.frame _,fun h=>by cases h⟩
theorem row_holds:Rows.SyntaxBackSaid :=
 OpenClaim.holds_of_wide 3 Tryz.f3 rfl rfl rfl rfl rfl rfl rfl ⟨rfl,rfl,rfl,rfl,rfl⟩ rfl rfl rfl rfl rfl (by kernel_rfl) Tryz.func3 (by kernel_rfl)
  (of_decide_eq_true (by kernel_rfl)) (by unfold Func.isWrapper;first | (rw [if_pos (by decide +kernel)];kernel_rfl) | (rw [if_neg (by decide +kernel)];exact ⟨rfl,rfl⟩))
  (fun os started H enc _=>lifted os started H enc)
theorem proved:Rows.SyntaxBackCardSaid :=
 Claim7.holds_tied_plain_at .later [] [.data,.data,.data,.data,.data] true (true, "9f2e36f5433a759ea8e07b22118a5c16ed81b296dcd927201f7ec52b12c78750") false
  row_holds (fun _ h=>by cases h) (by kernel_rfl) (fun _ h=>by cases h) syntaxBack_row_tie rfl ⟨rfl,rfl⟩ (by kernel_rfl) rfl
  (fun f fn hf hfn=>by
   obtain rfl:f=3:=Option.some.inj ((show Tryz.prog.funcNamed "reprise/repriselaw02.SyntaxBack"=some 3 by kernel_rfl).symm.trans hf) |>.symm
   obtain rfl:fn=Tryz.f3:=(Option.some.inj (Tryz.func3.symm.trans hfn)).symm
   exact ⟨by kernel_rfl,fun j t ht=>by
    rw [Tryz.params3] at ht
    have hm:t∈[27]:=by simpa using Array.mem_of_getElem? ht
    have hall:([27].all fun u=>!Tryz.prog.wantsStandIn u)=true:=by kernel_rfl
    exact (show Tryz.prog.wantsStandIn t=false by simpa using List.all_eq_true.1 hall t hm)⟩)
  (by kernel_rfl)
#print axioms proved
end Go.Proofs.YtpjabnemkmdobaaGreatDoor.syntaxBack
