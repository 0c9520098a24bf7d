/- Texts put together by program: EbAL EbAF EbAM ParsV ParsW EbAN EbAO EbAP Shows SmA SmB. -/
import Derived.Test.YtpjabnemkmdobaaGreatDoorMgK
import Derived.Test.YtpjabnemkmdobaaGreatDoorMgH
import Derived.Test.YtpjabnemkmdobaaGreatDoorMgI
import Derived.Laws.AppendOwnNone
import Derived.Test.YtpjabnemkmdobaaGreatDoorMgG
import Derived.Test.YtpjabnemkmdobaaGreatDoorMgA
import Derived.Test.YtpjabnemkmdobaaGreatDoorMgE
import Derived.Test.YtpjabnemkmdobaaGreatDoorMgF
import Derived.Deep.RegionHeld3
namespace Go.Proofs.YtpjabnemkmdobaaGreatDoor
open Go.RowKit
theorem leaf_int {t:Rt}{n:Int}(hk:t.k=3)(hn:t.n=n):leafOf t=.mk 1 n [] [] [] [] [] []:=by
 unfold leafOf
 rw [if_pos hk,hn]
theorem rdA_int {n:Int}(hn:-999999999≤n∧n≤999999999):RdA (.mk 1 n [] [] [] [] [] []):=by
 intro F b g go c ts nx dp w hp hok hk hf hd hF
 have hl:lim 5 (.mk 1 n [] [] [] [] [] [])=401:=rfl
 have h1:hE (.mk 1 n [] [] [] [] [] [])=1:=rfl
 rw [hl,h1] at hF
 have hin:atKE 5 (.mk 1 n [] [] [] [] [] [])=if n < 0 then [(4,[40],0),(4,[45],0),(3,[],-n),(4,[41],0)] else [(3,[],n)]:=by rw [atKE_in (lvl (b:=5) rfl (by decide)),k_int]
 rw [hin] at hk hf ⊢
 by_cases h0:n < 0
 ·rw [if_pos h0] at hk hf ⊢
  obtain ⟨t,ht,tk,tsx,_⟩:=hk.head
  obtain ⟨t1,ht1,_,tsx1,_⟩:=hk.tail.head
  obtain ⟨t2,ht2,tk2,_,tn2⟩:=hk.tail.tail.head
  obtain ⟨t3,ht3,_,tsx3,_⟩:=hk.tail.tail.tail.head
  refine atomF_any b g go c ts nx dp _ _ w hp hd (hF.imp_left fun _=>by omega) (at_lt ht) (Lib.hid fun hd1 x w1 hp1 hx1=>atom1_sym x b g go c ts nx _ (dp+1) t _ w1 hp1 hx1 ht tk (Lib.hid fun w2 _ hp2=>enc_par b g go c ts nx _ (dp+1) t _ w2 hp2 ht tsx (Lib.hid fun w3 _ hp3=>?_)))
  have:=par_neg (F:=F) b g go c ts nx (dp+1) t t1 t2 t3 w3 hp3 ht tsx ht1 tsx1 ht2 tk2 (by rw [tn2];show 0≤-n∧-n≤999999999;omega) ht3 tsx3 hok.1
  rw [tn2,show -(-n)=n by omega] at this
  exact this
 ·rw [if_neg h0] at hk hf ⊢
  obtain ⟨t,ht,tk,tsx,tn⟩:=hk.head
  refine atomF_any b g go c ts nx dp _ _ w hp hd (hF.imp_left fun _=>by omega) (at_lt ht) (Lib.hid fun hd1 x w1 hp1 hx1=>?_)
  have:=atom1_int x b g go c ts nx (dp+1) t w1 hp1 hx1 ht tk hok
  rw [leaf_int tk tn] at this
  exact this.mono fun _ _ h=>.inl h
theorem rdA_bool {n:Int}(hn:n=0∨n=1):RdA (.mk 2 n [] [] [] [] [] []):=by
 intro F b g go c ts nx dp w hp hok hk hf hd hF
 have hl:lim 5 (.mk 2 n [] [] [] [] [] [])=401:=rfl
 have h1:hE (.mk 2 n [] [] [] [] [] [])=1:=rfl
 rw [hl,h1] at hF
 have hin:atKE 5 (.mk 2 n [] [] [] [] [] [])=if n=0 then [wk [102,97,108,115,101]] else [wk [116,114,117,101]]:=by rw [atKE_in (lvl (b:=5) rfl (by decide)),k_bool]
 rw [hin] at hk hf ⊢
 rcases hn with rfl | rfl
 ·rw [if_pos rfl,wk_k (show isKw [102,97,108,115,101]=true by decide)] at hk
  rw [if_pos rfl] at hf ⊢
  obtain ⟨t,ht,tk,tsx,_⟩:=hk.head
  exact atomF_any b g go c ts nx dp _ _ w hp hd (hF.imp_left fun _=>by omega) (at_lt ht) (Lib.hid fun hd1 x w1 hp1 hx1=>atom1_kw x b g go c ts nx _ (dp+1) t _ w1 hp1 hx1 ht tk (Lib.hid fun w2 _ hp2=>enc_false b g go c ts nx (dp+1) t w2 hp2 ht tsx hok.1))
 ·rw [if_neg (by decide),wk_k (show isKw [116,114,117,101]=true by decide)] at hk
  rw [if_neg (by decide)] at hf ⊢
  obtain ⟨t,ht,tk,tsx,_⟩:=hk.head
  exact atomF_any b g go c ts nx dp _ _ w hp hd (hF.imp_left fun _=>by omega) (at_lt ht) (Lib.hid fun hd1 x w1 hp1 hx1=>atom1_kw x b g go c ts nx _ (dp+1) t _ w1 hp1 hx1 ht tk (Lib.hid fun w2 _ hp2=>enc_true b g go c ts nx (dp+1) t w2 hp2 ht tsx hok.1))
theorem rdA_unit:RdA (.mk 3 0 [] [] [] [] [] []):=by
 intro F b g go c ts nx dp w hp hok hk hf hd hF
 have hl:lim 5 (.mk 3 0 [] [] [] [] [] [])=401:=rfl
 have h1:hE (.mk 3 0 [] [] [] [] [] [])=1:=rfl
 rw [hl,h1] at hF
 have hin:atKE 5 (.mk 3 0 [] [] [] [] [] [])=[(4,[40],0),(4,[41],0)]:=by rw [atKE_in (lvl (b:=5) rfl (by decide)),k_unit]
 rw [hin] at hk hf ⊢
 obtain ⟨t,ht,tk,tsx,_⟩:=hk.head
 obtain ⟨t1,ht1,_,tsx1,_⟩:=hk.tail.head
 exact atomF_any b g go c ts nx dp _ _ w hp hd (hF.imp_left fun _=>by omega) (at_lt ht) (Lib.hid fun hd1 x w1 hp1 hx1=>atom1_sym x b g go c ts nx _ (dp+1) t _ w1 hp1 hx1 ht tk (Lib.hid fun w2 _ hp2=>enc_par b g go c ts nx _ (dp+1) t _ w2 hp2 ht tsx (Lib.hid fun w3 _ hp3=>par_unit b g go c ts nx (dp+1) t t1 w3 hp3 ht tsx ht1 tsx1 hok.1)))
theorem rdA_con {s:Txt}{l:List Ex}(hs:isNm 2 s=true)(hl:l.length≤100)(hR:∀ x∈l,RdX x):RdA (.mk 10 0 s [] [] l [] []):=by
 intro F b g go c ts nx dp w hp hok hk hf hd hF
 have hlm:lim 5 (.mk 10 0 s [] [] l [] [])=401:=rfl
 have h1:1≤hE (.mk 10 0 s [] [] l [] []):=by rw [hE];omega
 have hh:∀ x∈l,hE x+1≤hE (.mk 10 0 s [] [] l [] []):=fun x hx=>hE_part (by simp [Ex.parts,Ex.l,Ex.bs,hx])
 rw [hlm] at hF
 have hin:atKE 5 (.mk 10 0 s [] [] l [] [])=wk s :: (if l.length=0 then [] else (4,[91],0) :: (listKy (4,[44],0) (l.map (atKE 0))++[(4,[93],0)])):=by rw [atKE_in (lvl (b:=5) rfl (by decide)),k_con]
 rw [hin] at hk hf ⊢
 rw [wk_u hs] at hk
 obtain ⟨t,ht,tk,tsx,_⟩:=hk.head
 refine atomF_any b g go c ts nx dp _ _ w hp hd (hF.imp_left fun _=>by omega) (at_lt ht) (Lib.hid fun hd1 x w1 hp1 hx1=>atom1_con x b g go c ts nx _ (dp+1) t _ w1 hp1 hx1 ht tk (Lib.hid fun w2 _ hp2=>?_))
 by_cases h0:l.length=0
 ·obtain rfl:=List.length_eq_zero_iff.1 h0
  rw [if_pos h0] at hf ⊢
  obtain ⟨t1,ht1,_,hb1⟩:=hf
  have:=con_plain (F:=F) b g go c ts nx (dp+1) t t1 w2 hp2 ht tk ht1 hb1 hok.1 (hok.2 _ _ ht).1
  rwa [tsx] at this
 ·rw [if_neg h0] at hk hf ⊢
  obtain ⟨t1,ht1,_,tsx1,_⟩:=hk.tail.head
  have kl:=hk.tail.tail.left
  obtain ⟨t2,ht2,tk2,tsx2,_⟩:=hk.tail.tail.right.head
  have:=con_list (F:=F) b g go c ts nx _ (dp+1) t t1 t2 l w2 hp2 ht tk ht1 tsx1 ht2 tsx2 hok.1 (hok.2 _ _ ht).1 (Lib.hid fun w3 _ hp3=>exprs_read b g go c ts _ (dp+1) l w3 hp3 hok kl (by omega) (by omega) hR hd1 (fun x hx=>hF.imp_left fun _=>by have:=hh x hx;omega) ⟨t2,ht2,tk2,tsx2⟩)
  rw [tsx] at this
  rwa [show nx+(wk s :: (4,[91],0) :: (listKy (4,[44],0) (l.map (atKE 0))++[(4,[93],0)])).length=nx+1+1+(listKy (4,[44],0) (l.map (atKE 0))).length+1 by simp only [List.length_cons,List.length_append,List.length_nil];omega]
theorem zip_fst {ops:List (Txt × List Txt)}{bs:List Ex}(h:ops.length=bs.length):(ops.zip bs).map (·.1)=ops∧(ops.zip bs).map (·.2)=bs:=⟨List.map_fst_zip (by omega),List.map_snd_zip (by omega)⟩
theorem zip_mem {ops:List (Txt × List Txt)}{bs:List Ex}{x:Am}(h:x∈ops.zip bs):x.1∈ops∧x.2∈bs:=by
 obtain ⟨a,e⟩:=x
 exact ⟨(List.of_mem_zip h).1,(List.of_mem_zip h).2⟩
theorem rdA_match {e0:Ex}{ops:List (Txt × List Txt)}{bs:List Ex}(hlen:ops.length=bs.length)(hl:bs.length≤100)(hc:CsOk ops)(h0:RdX e0)(hR:∀ x∈bs,RdX x):RdA (.mk 11 0 [] [] [] [e0] ops bs):=by
 intro F b g go c ts nx dp w hp hok hk hf hd hF
 have hlm:lim 5 (.mk 11 0 [] [] [] [e0] ops bs)=401:=rfl
 have h1:hE e0+1≤hE (.mk 11 0 [] [] [] [e0] ops bs):=hE_part (by simp [Ex.parts,Ex.l,Ex.bs])
 have hh:∀ x∈bs,hE x+1≤hE (.mk 11 0 [] [] [] [e0] ops bs):=fun x hx=>hE_part (by simp [Ex.parts,Ex.l,Ex.bs,hx])
 rw [hlm] at hF
 have hin:atKE 5 (.mk 11 0 [] [] [] [e0] ops bs)=wk [109,97,116,99,104] :: (atKE 0 e0++armsKE (ops.zip bs)):=by rw [atKE_in (lvl (b:=5) rfl (by decide)),k_match]
 rw [hin] at hk hf ⊢
 rw [wk_k (show isKw [109,97,116,99,104]=true by decide)] at hk
 obtain ⟨t,ht,tk,tsx,_⟩:=hk.head
 have k0:=hk.tail.left
 have ka:=hk.tail.right
 obtain ⟨t1,ht1,tk1,tsx1,_⟩:=(show KAt ts _ (_ :: _) from ka).head
 obtain ⟨hz1,hz2⟩:=zip_fst hlen
 have hend:nx+(wk [109,97,116,99,104] :: (atKE 0 e0++armsKE (ops.zip bs))).length=nx+1+(atKE 0 e0).length+(armsKE (ops.zip bs)).length:=by simp only [List.length_cons,List.length_append];omega
 rw [hend]
 refine atomF_any b g go c ts nx dp _ _ w hp hd (hF.imp_left fun _=>by omega) (at_lt ht) (Lib.hid fun hd1 x w1 hp1 hx1=>atom1_kw x b g go c ts nx _ (dp+1) t _ w1 hp1 hx1 ht tk (Lib.hid fun w2 _ hp2=>?_))
 have:=enc_match (F:=F) b g go c ts nx _ _ (dp+1) t e0 (ops.zip bs) w2 hp2 ht tsx hok.1
  (Lib.hid fun w3 _ hp3=>h0 F b g go c ts _ (dp+1) w3 hp3 hok k0 (endF_sym ht1 tk1 (by rw [tsx1];decide)) hd1 (hF.imp_left fun _=>by omega))
  (Lib.hid fun w3 _ hp3=>cases_read b g go c ts _ (dp+1) (ops.zip bs) w3 hp3 hok ka (by rw [List.length_zip];omega) (fun x hx=>hc _ (zip_mem hx).1) (fun x hx=>hR _ (zip_mem hx).2) hd1 (fun x hx=>hF.imp_left fun _=>by have:=hh _ (zip_mem hx).2;omega))
 rwa [hz1,hz2] at this
theorem cl_zip {ops:List (Txt × List Txt)}{bs:List Ex}{kk:Nat}{x:Am}(h:(ops.zip bs)[kk]?=some x):ops[kk]?=some x.1:=by
 rw [List.getElem?_zip_eq_some] at h
 exact h.1
theorem handler_read {F:Prop}{e0:Ex}{ops:List (Txt × List Txt)}{bs:List Ex}(hlen:ops.length=bs.length)(hl:bs.length≤100)(hc:ClOk ops)(h0:RdX e0)(hR:∀ x∈bs,RdX x)(s:Txt)(hs:isNm 2 s=true)
  (b g go c:Nat) (ts:List Rt) (nx dp:Nat) (k n:Int) (An:Option Addr) (cn:Nat) (ns:List Txt) (w0 w:World) (hp:PS w b g go c ts nx dp) (hg0:w0.grownBy w (some b)) (hb0:b < w0.heap.size) (hkn:okN k∧okN n) (hns:NamesAt (fun x=>w0.heap.size≤x) w An ns) (hcn:(ns.length≤cn∧cn≤maxLen)∧∀ x∈ns,okS x)
  (hok:TokOk ts) (hk:KAt ts nx (wk s :: (atKE 0 e0++armsKE (ops.zip bs)))) (hd:dp≤400) (hD0:Dp F e0 dp) (hD:∀ x∈bs,Dp F x dp) :
  Calls Tryz.prog 152 #[.pointer (some ⟨b,0,none⟩),.agg #[.int .i64 k,.int .i64 n,.string ⟨#[]⟩,.string ⟨#[]⟩,.slice An ns.length cn,.slice none 0 0,.slice none 0 0]] w (OF F w0 b g go c ts (ExprTo w0 b g go c ts (nx+(wk s :: (atKE 0 e0++armsKE (ops.zip bs))).length) dp (.mk k n s [] ns [e0] ops bs))):=by
 rw [wk_u hs] at hk
 obtain ⟨t,ht,tk,tsx,_⟩:=hk.head
 have k0:=hk.tail.left
 have ka:=hk.tail.right
 obtain ⟨t1,ht1,tk1,tsx1,_⟩:=(show KAt ts _ (_ :: _) from ka).head
 obtain ⟨hz1,hz2⟩:=zip_fst hlen
 have hend:nx+(wk s :: (atKE 0 e0++armsKE (ops.zip bs))).length=nx+1+(atKE 0 e0).length+(armsKE (ops.zip bs)).length:=by simp only [List.length_cons,List.length_append];omega
 rw [hend]
 have:=handler_any (F:=F) b g go c ts nx _ _ dp k n t An cn ns e0 (ops.zip bs) w0 w hp hg0 hb0 hkn hns hcn ht tk (hok.2 _ _ ht).1 hok.1
  (Lib.hid fun w3 _ hp3=>h0 F b g go c ts _ dp w3 hp3 hok k0 (endF_sym ht1 tk1 (by rw [tsx1];decide)) hd hD0)
  (Lib.hid fun w3 _ hp3=>clauses_read b g go c ts _ dp (ops.zip bs) w3 hp3 hok ka (by rw [List.length_zip];omega) (fun x hx=>hc.1 _ (cl_zip hx)) (fun kk x hkk hx=>hc.2.1 kk _ hkk (cl_zip hx)) (fun x hx=>hc.2.2 _ (zip_mem hx).1) (fun x hx=>hR _ (zip_mem hx).2) hd (fun x hx=>hD _ (zip_mem hx).2))
 rwa [hz1,hz2,tsx] at this
theorem rdA_handle {n:Int}{s:Txt}{e0:Ex}{ops:List (Txt × List Txt)}{bs:List Ex}(hn:n=0∨n=1)(hs:isNm 2 s=true)(hlen:ops.length=bs.length)(hl:bs.length≤100)(hc:ClOk ops)(h0:RdX e0)(hR:∀ x∈bs,RdX x):RdA (.mk 14 n s [] [] [e0] ops bs):=by
 intro F b g go c ts nx dp w hp hok hk hf hd hF
 have hlm:lim 5 (.mk 14 n s [] [] [e0] ops bs)=401:=rfl
 have h1:hE e0+1≤hE (.mk 14 n s [] [] [e0] ops bs):=hE_part (by simp [Ex.parts,Ex.l,Ex.bs])
 have hh:∀ x∈bs,hE x+1≤hE (.mk 14 n s [] [] [e0] ops bs):=fun x hx=>hE_part (by simp [Ex.parts,Ex.l,Ex.bs,hx])
 rw [hlm] at hF
 have hin:atKE 5 (.mk 14 n s [] [] [e0] ops bs)=wk (if n=1 then [115,104,97,108,108,111,119] else [104,97,110,100,108,101]) :: wk s :: (atKE 0 e0++armsKE (ops.zip bs)):=by rw [atKE_in (lvl (b:=5) rfl (by decide)),k_handle]
 rw [hin] at hk hf ⊢
 have hk0:=hk.tail
 have hend:∀ kw,nx+(kw :: wk s :: (atKE 0 e0++armsKE (ops.zip bs)):List Ky).length=nx+1+(wk s :: (atKE 0 e0++armsKE (ops.zip bs))).length:=fun kw=>by simp only [List.length_cons,List.length_append];omega
 rw [hend]
 rcases hn with rfl | rfl
 ·rw [if_neg (by decide),wk_k (show isKw [104,97,110,100,108,101]=true by decide)] at hk
  obtain ⟨t,ht,tk,tsx,_⟩:=hk.head
  exact atomF_any b g go c ts nx dp _ _ w hp hd (hF.imp_left fun _=>by omega) (at_lt ht) (Lib.hid fun hd1 x w1 hp1 hx1=>atom1_kw x b g go c ts nx _ (dp+1) t _ w1 hp1 hx1 ht tk (Lib.hid fun w2 _ hp2=>enc_handle b g go c ts nx _ (dp+1) t _ w2 hp2 ht tsx hok.1
   (Lib.hid fun w3 _ hp3=>handler_read hlen hl hc h0 hR s hs b g go c ts (nx+1) (dp+1) 14 0 none 0 [] w3 w3 hp3 (World.grownBy.refl _ _) hp3.blt ⟨okN_small (by omega),okN_small (by omega)⟩ (fun h=>absurd rfl h) ⟨⟨Nat.le_refl _,Nat.zero_le _⟩,fun x hx=>by simp at hx⟩ hok hk0 hd1 (hF.imp_left fun _=>by omega) (fun x hx=>hF.imp_left fun _=>by have:=hh x hx;omega))))
 ·rw [if_pos rfl,wk_k (show isKw [115,104,97,108,108,111,119]=true by decide)] at hk
  obtain ⟨t,ht,tk,tsx,_⟩:=hk.head
  exact atomF_any b g go c ts nx dp _ _ w hp hd (hF.imp_left fun _=>by omega) (at_lt ht) (Lib.hid fun hd1 x w1 hp1 hx1=>atom1_kw x b g go c ts nx _ (dp+1) t _ w1 hp1 hx1 ht tk (Lib.hid fun w2 _ hp2=>enc_shallow b g go c ts nx _ (dp+1) t _ w2 hp2 ht tsx hok.1
   (Lib.hid fun w3 _ hp3=>handler_read hlen hl hc h0 hR s hs b g go c ts (nx+1) (dp+1) 14 1 none 0 [] w3 w3 hp3 (World.grownBy.refl _ _) hp3.blt ⟨okN_small (by omega),okN_small (by omega)⟩ (fun h=>absurd rfl h) ⟨⟨Nat.le_refl _,Nat.zero_le _⟩,fun x hx=>by simp at hx⟩ hok hk0 hd1 (hF.imp_left fun _=>by omega) (fun x hx=>hF.imp_left fun _=>by have:=hh x hx;omega))))
theorem rdA_named {s a:Txt}{e0:Ex}{ops:List (Txt × List Txt)}{bs:List Ex}(hs:isNm 2 s=true)(ha:isV a=true)(hlen:ops.length=bs.length)(hl:bs.length≤100)(hc:ClOk ops)(h0:RdX e0)(hR:∀ x∈bs,RdX x):RdA (.mk 15 0 s [] [a] [e0] ops bs):=by
 intro F b g go c ts nx dp w hp hok hk hf hd hF
 have hlm:lim 5 (.mk 15 0 s [] [a] [e0] ops bs)=401:=rfl
 have h1:hE e0+1≤hE (.mk 15 0 s [] [a] [e0] ops bs):=hE_part (by simp [Ex.parts,Ex.l,Ex.bs])
 have hh:∀ x∈bs,hE x+1≤hE (.mk 15 0 s [] [a] [e0] ops bs):=fun x hx=>hE_part (by simp [Ex.parts,Ex.l,Ex.bs,hx])
 rw [hlm] at hF
 have hin:atKE 5 (.mk 15 0 s [] [a] [e0] ops bs)=wk [110,97,109,101,100] :: wk a :: wk s :: (atKE 0 e0++armsKE (ops.zip bs)):=by rw [atKE_in (lvl (b:=5) rfl (by decide)),k_named]
 rw [hin] at hk hf ⊢
 have hend:nx+(wk [110,97,109,101,100] :: wk a :: wk s :: (atKE 0 e0++armsKE (ops.zip bs)):List Ky).length=nx+1+1+(wk s :: (atKE 0 e0++armsKE (ops.zip bs))).length:=by simp only [List.length_cons,List.length_append];omega
 rw [hend]
 rw [wk_k (show isKw [110,97,109,101,100]=true by decide),wk_v ha] at hk
 obtain ⟨t,ht,tk,tsx,_⟩:=hk.head
 obtain ⟨t1,ht1,tk1,tsx1,_⟩:=hk.tail.head
 have hk0:=hk.tail.tail
 refine atomF_any b g go c ts nx dp _ _ w hp hd (hF.imp_left fun _=>by omega) (at_lt ht) (Lib.hid fun hd1 x w1 hp1 hx1=>atom1_kw x b g go c ts nx _ (dp+1) t _ w1 hp1 hx1 ht tk (Lib.hid fun w2 _ hp2=>enc_named b g go c ts nx _ (dp+1) t t1 _ w2 hp2 ht tsx ht1 tk1 hok.1
   (Lib.hid fun w0 w3 z _ hg0 hb0 hp3 hns=>?_)))
 rw [tsx1] at hns
 exact handler_read hlen hl hc h0 hR s hs b g go c ts (nx+1+1) (dp+1) 15 0 (some ⟨z,0,none⟩) 1 [a] w0 w3 hp3 hg0 hb0 ⟨okN_small (by omega),okN_small (by omega)⟩ hns ⟨⟨Nat.le_refl _,by unfold maxLen;omega⟩,fun x hx=>by rw [List.mem_singleton] at hx;rw [hx];exact okS_v ha⟩ hok hk0 hd1 (hF.imp_left fun _=>by omega) (fun x hx=>hF.imp_left fun _=>by have:=hh x hx;omega)
theorem res_using {tmps:Array Value}{w:World}{g:Nat}{v0 v1 v2 v3 v4 v5 v6:Value}(h2:tmps.getD 2 undef=.pointer (some ⟨g,0,none⟩))(h:EB w g v0 v1 v2 v3 v4 v5 v6) :
  (results Tryz.f59 tmps).run Tryz.prog w=.ok (.agg #[v0,v1,v2,v3,v4,v5,v6]) w:=by
 have c0:=h.c0
 have c1:=h.c1
 have c2:=h.c2
 have c3:=h.c3
 have c4:=h.c4
 have c5:=h.c5
 have c6:=h.c6
 simp only [Array.getD_eq_getD_getElem?] at h2
 simp [results,Tryz.results59,go_sem,h2,c0,c1,c2,c3,c4,c5,c6]
theorem own_apart3 {w:World}{base:Nat}{T:TypeId}{size:Nat}{v:Value}{m:Nat}{xs:List Value}{b:Nat}(h:w.ownsRow base T size v m xs)(hb:b < base):v.ownBlock=none∨v.ownBlock≠some b:=.inr fun e=>own_ne2 h hb e.symm
set_option maxRecDepth 100000 in
set_option maxHeartbeats 2000000 in
theorem using_any {F:Prop}(b g go c:Nat)(ts:List Rt)(nx n3 nx1 dp:Nat)(t t1 t2 t3:Rt)(rn:List Txt)(l:List Ex)(w:World)(h:PS w b g go c ts nx dp)(ht:ts[nx]?=some t)(hs:t.s=[117,115,105,110,103])(ht1:ts[nx+1]?=some t1)(hk1:t1.k=0)(ht2:ts[nx+1+1]?=some t2)(hs2:t2.s=[91])(ht3:ts[n3]?=some t3)(hs3:t3.s=[93])(hlen:ts.length≤100000)(hok:okS t1.s∧∀ x∈rn,okS x)(hrn:rn.length≤1000)
  (HSep:Hid (∀ z w',w.grownBy w' (some b)→PS w' b g go c ts (nx+1+1+1) dp→NamesAt (fun x=>x≠b) w' (some ⟨z,0,none⟩) [[93]]→Calls Tryz.prog 88 #[.pointer (some ⟨b,0,none⟩),.string ⟨#[44]⟩,.func (.func 89) #[.pointer (some ⟨b,0,none⟩)] #[],.slice (some ⟨z,0,none⟩) 1 1] w' (StrsTo w' b g go c ts n3 dp rn)))
  (HB:Hid (∀ q w',w.grownBy w' (some b)→PS w' b g go c ts (n3+1) dp→NamesAt (fun x=>x≠b) w' (some ⟨q,0,none⟩) [[61],[99,108,111,115,101],[105,110]]→Calls Tryz.prog 58 #[.pointer (some ⟨b,0,none⟩),.slice (some ⟨q,0,none⟩) 3 3] w' (OF F w' b g go c ts (ListTo w' b g go c ts nx1 dp l)))) :
  Calls Tryz.prog 59 #[.pointer (some ⟨b,0,none⟩)] w (OF F w b g go c ts (ExprTo w b g go c ts nx1 dp (.mk 17 0 [] [] (t1.s :: rn) l [] []))):=by
 obtain ⟨i0,hi,iz0,iz1,iz2⟩:=info_parts infoN
 have hmf:∀ (fn:Fn) (first cap:Array Value) (w:World),(Instr.makeFunc fn first cap).run Tryz.prog w=.ok (.func fn first cap) w:=fun _ _ _ _=>rfl
 have HN0:=Lib.hid (fun w h=>need_ok b g go c ts nx dp t ⟨#[117,115,105,110,103]⟩ w h ht hs hlen)
 have HLo:=Lib.hid (fun w h=>lower_ok b g go c ts (nx+1) dp t1 w h ht1 hk1 hlen)
 have HN2:=Lib.hid (fun w h=>need_ok b g go c ts (nx+1+1) dp t2 ⟨#[91]⟩ w h ht2 hs2 hlen)
 have HN3:=Lib.hid (fun w h=>need_ok b g go c ts n3 dp t3 ⟨#[93]⟩ w h ht3 hs3 hlen)
 have H:=Lib.hid h
 have hbl:=h.blt
 have hgl:=h.lt
 obtain ⟨S,hS⟩:∃ S,S=strB t1.s:=⟨_,rfl⟩
 rw [← hS] at HLo
 have HSe:=Lib.hid hS
 have HOk:=Lib.hid hok
 obtain ⟨rl,hrl⟩:∃ rl,rl=rn.length:=⟨_,rfl⟩
 have HRl:=Lib.hid hrl
 rw [← hrl] at hrn
 clear h ht hs ht1 hk1 ht2 hs2 ht3 hs3 hlen hS hok hrl
 go_enter Tryz.func59,Tryz.ntmps59
 go_wp2_with fail
 have H0:=Lib.hid (H.out.below (WH0_below w))
 have HE0:=Lib.hid (WH0_E w)
 have HG0:=Lib.hid (grown_below (WH0_below w) (some b))
 refine (HN0.out _ H0.out).mono ?_
 rintro e w1 ⟨rfl,hw⟩
 have H1:=Lib.hid hw.1
 have HE1:=Lib.hid (HE0.out.kept hw.2 (by simp;omega))
 have HG1:=Lib.hid (grown_trans HG0.out hw.2)
 have hz1:w.heap.size < w1.heap.size:=HE1.out.lt
 clear hw
 go_wp2_with fail
 refine (HLo.out _ H1.out).mono ?_
 rintro e w2 ⟨rfl,hw⟩
 have H2:=Lib.hid hw.1
 have HE2:=Lib.hid (HE1.out.kept hw.2 (by simp;omega))
 have HG2:=Lib.hid (grown_trans HG1.out hw.2)
 have hz2:w.heap.size < w2.heap.size:=HE2.out.lt
 clear hw
 go_wp2_with fail
 obtain ⟨W3,hW3⟩:∃ W3,w2.alloc (.cells #[.string S] 9)=W3:=⟨_,rfl⟩
 have hg3:w2.grownBy W3 none:=by rw [← hW3];exact World.grownBy_alloc _ _ _
 have HO3:Hid (W3.ownsRow (w.heap.size+1) 9 1 (.slice (some ⟨w2.heap.size,0,none⟩) 1 1) 1 [.string S]):=Lib.hid (by
  rw [← hW3]
  exact ⟨rfl,.inr ⟨w2.heap.size,1,#[.string S],rfl,by omega,heap_alloc_new w2 _,Nat.le_refl _,by unfold maxLen;omega,rfl,rfl⟩⟩)
 rw [hW3]
 obtain ⟨V,hV⟩:∃ V,V=Value.slice (some ⟨w2.heap.size,0,none⟩) 1 1:=⟨_,rfl⟩
 rw [← hV] at HO3 ⊢
 clear hV
 have H3:=Lib.hid (H2.out.kept hg3 (by simp) (by simp))
 have HE3:=Lib.hid (HE2.out.kept hg3 (by simp))
 have HG3:=Lib.hid (grown_trans HG2.out (Below.grownBy' hg3))
 have hz3:w.heap.size < W3.heap.size:=HE3.out.lt
 clear hW3 hg3
 refine (HN2.out _ H3.out).mono ?_
 rintro e w4 ⟨rfl,hw⟩
 have H4:=Lib.hid hw.1
 have HE4:=Lib.hid (HE3.out.kept hw.2 (by simp;omega))
 have HO4:=Lib.hid (HO3.out.kept hw.2 (own_apart3 HO3.out (by omega)))
 have HG4:=Lib.hid (grown_trans HG3.out hw.2)
 have hz4:w.heap.size < w4.heap.size:=HE4.out.lt
 clear hw
 go_wp2_with fail
 have hg5:w4.grownBy (w4.alloc (.cells #[.string ⟨#[93]⟩] 9)) none:=World.grownBy_alloc _ _ _
 have H5:=Lib.hid (H4.out.kept hg5 (by simp) (by simp))
 have HE5:=Lib.hid (HE4.out.kept hg5 (by simp))
 have HO5:=Lib.hid (HO4.out.alloc (.cells #[.string ⟨#[93]⟩] 9))
 have HG5:=Lib.hid (grown_trans HG4.out (Below.grownBy' hg5))
 refine (HSep.out w4.heap.size _ HG5.out H5.out (toks_new1 w4 b (by omega) [93] 9)).mono ?_
 rintro e w6 ⟨A,cap,rfl,ho,hw⟩
 have hz5:=hw.2.size
 have hz5':w.heap.size < w6.heap.size:=by simp at hz5;omega
 have H6:=Lib.hid hw.1
 have HE6:=Lib.hid (HE5.out.kept hw.2 (by simp;omega))
 have HO6:=Lib.hid (HO5.out.kept hw.2 (own_apart3 HO5.out (by omega)))
 have HG6:=Lib.hid (grown_trans HG5.out hw.2)
 rw [← HRl.out] at ho ⊢
 have HF6:=Lib.hid ho
 clear hw ho hg5 hz5
 go_wp2_with fail
 refine (HN3.out _ H6.out).mono ?_
 rintro e w7 ⟨rfl,hw⟩
 have H7:=Lib.hid hw.1
 have HE7:=Lib.hid (HE6.out.kept hw.2 (by simp;omega))
 have HO7:=Lib.hid (HO6.out.kept hw.2 (own_apart3 HO6.out (by omega)))
 have HF7:=Lib.hid (HF6.out.kept hw.2 (own_apart2 HF6.out (by simp;omega)))
 have HG7:=Lib.hid (grown_trans HG6.out hw.2)
 have hz7:w.heap.size < w7.heap.size:=HE7.out.lt
 have hcap:rl≤cap∧cap≤maxLen:=(own_names2 HRl.out HF7.out).2
 have hlen1:(rn.map fun x=>Value.string (strB x)).length=rl*1:=by rw [List.length_map,← HRl.out];omega
 have hone:∀ u∈(rn.map fun x=>Value.string (strB x)),u.oneCell'=true:=fun u hu=>by
  obtain ⟨x,_,rfl⟩:=List.mem_map.1 hu
  rfl
 have HKey:Hid (∀ (A3:Option Addr) (c3:Nat) (w8:World),w8.ownsRow (w.heap.size+1) 9 1 (.slice A3 (1+rl) c3) (1+rl) ([.string S]++rn.map fun x=>Value.string (strB x))→NamesAt (fun x=>w.heap.size+1≤x) w8 A3 (t1.s :: rn)∧1+rl≤c3∧c3≤maxLen):=Lib.hid (fun A3 c3 w8 h=>own_names2 (by rw [List.length_cons,← HRl.out];omega) (by rw [List.map_cons,← HSe.out];exact h))
 clear hw
 rcases HF7.out.2 with ⟨e,h0⟩ | ⟨g1,cap1,cur,e,hb1,hg1,_⟩
 ·injection e with e1 e2 e3
  subst e1 e2 e3
  go_wp2_with (at_builtin;refine wpList_append_own_none rfl _ _ 23 rfl (w.heap.size+1) 9 i0 1 Tryz.underlying23 hi _ _ _ rfl HO7.out rfl ?_)
  obtain ⟨A3,c3,rfl⟩:=own_slice HO7.out
  have hrn0:rn=[]:=List.length_eq_zero_iff.1 HRl.out.symm
  obtain ⟨hn8,hc8⟩:=HKey.out A3 c3 w7 (by rw [hrn0];exact HO7.out)
  have HN8:=Lib.hid hn8
  have HNn:Hid ((t1.s :: rn).length=1):=Lib.hid (by rw [hrn0];rfl)
  clear hn8 hrn0
  have hz8:w.heap.size < w7.heap.size:=HE7.out.lt
  have hg9:w7.grownBy (w7.alloc (.cells #[.string ⟨#[61]⟩,.string ⟨#[99,108,111,115,101]⟩,.string ⟨#[105,110]⟩] 9)) none:=World.grownBy_alloc _ _ _
  have HE9:=Lib.hid (HE7.out.kept hg9 (by simp))
  have HG9:=Lib.hid (grown_trans HG7.out (Below.grownBy' hg9))
  have HN9:=Lib.hid (HN8.out.keep (Same.of_grown hg9 (fun x hx=>by simp)))
  have hb9:=H7.out.blt
  refine (HB.out w7.heap.size _ HG9.out (H7.out.kept hg9 (by simp) (by simp)) (toks_new3 w7 b (by omega) [61] [99,108,111,115,101] [105,110] 9)).mono ?_
  rintro e w10 (⟨Al,capl,rfl,hl,hcp,hw⟩ | ⟨hF,nxF,hnF,rfl,dpF,hpF,hgF⟩)
  rotate_left
  ·exact ⟨rfl,.inr ⟨hF,nxF,hnF,rfl,dpF,hpF,grown_trans HG9.out hgF⟩⟩
  have H10:=Lib.hid hw.1
  have HE10:=Lib.hid (HE9.out.kept hw.2 (by simp;omega))
  have HG10:=Lib.hid (grown_trans HG9.out hw.2)
  have HN10:=Lib.hid (HN9.out.keep (Same.of_grown hw.2 (fun x hx=>by simp;omega)))
  have HL10:=Lib.hid hl
  have HCp:=Lib.hid hcp
  have hz10:w.heap.size < w10.heap.size:=HE10.out.lt
  have e0:=HE10.out.c0
  have r0:=HE10.out.fr 0
  have e1:=HE10.out.c1
  have r1:=HE10.out.fr 1
  have e2:=HE10.out.c2
  have r2:=HE10.out.fr 2
  have e3:=HE10.out.c3
  have r3:=HE10.out.fr 3
  have e4:=HE10.out.c4
  have r4:=HE10.out.fr 4
  have e5:=HE10.out.c5
  have r5:=HE10.out.fr 5
  have e6:=HE10.out.c6
  have r6:=HE10.out.fr 6
  clear hl hcp hw HB
  go_wp2_with fail
  have hS:=Same.of_grown (P:=fun x=>w.heap.size+1≤x) (set7_grown w10 w.heap.size (.int .i64 17) (.int .i64 0) (.string ⟨#[]⟩) (.string ⟨#[]⟩) (.slice A3 1 c3) (.slice Al l.length capl) (.slice none 0 0)) (fun x hx=>by simp;omega)
  refine bodyPost_retF (res_using rfl (HE10.out.all _ _ _ _ _ _ _)) rfl ⟨17,0,⟨#[]⟩,⟨#[]⟩,A3,1,c3,Al,l.length,capl,none,0,0,rfl,⟨A3,c3,Al,capl,none,0,by rw [HNn.out];rfl,⟨okN_small (by omega),okN_small (by omega),okS_nil,Nat.zero_le _,?_,by rw [HNn.out];exact hc8,HCp.out,⟨Nat.le_refl _,Nat.zero_le _⟩⟩,(HN10.out.keep hS).weaken (fun x hx=>by omega),fun h0=>?_,fun h=>absurd rfl h,rfl⟩,H10.out.kept (set7_grown _ _ _ _ _ _ _ _ _) (by simp;omega) (by simp;omega),grown_7 HG10.out (Nat.le_refl _) _ _ _ _ _ _ _⟩
  ·intro x hx
   rcases List.mem_cons.1 hx with rfl | hx
   ·exact HOk.out.1
   ·exact HOk.out.2 x hx
  ·obtain ⟨y,off,e,h1,h2,h3⟩:=HL10.out h0
   have h1':w.heap.size+1≤y:=by simp at h1;omega
   exact ⟨y,off,e,by omega,Nat.lt_of_lt_of_le h2 hS.1,((h3.weaken (Q:=fun x=>w.heap.size+1≤x) (fun x hx=>by simp at hx;omega)).keep hS h1' h2).weaken (fun y hy=>by omega)⟩
 ·injection e with e1 e2 e3
  subst e1
  subst e3
  clear e2
  have hcells:∀ (j:Nat) (u:Value),(rn.map fun x=>Value.string (strB x))[j]?=some u→w7.cell? ((⟨g1,0,none⟩:Addr).add j)=some u:=fun j u hj=>by
   have hjl:=(List.getElem?_eq_some_iff.1 hj).1
   rw [List.length_map,← HRl.out] at hjl
   have:=HF7.out.cellAt j (by omega)
   rw [show ((⟨g1,0,none⟩:Addr).add j)=⟨g1,j,none⟩ by simp [Addr.add];omega,this,hj]
  go_wp2_with (at_builtin;refine wpList_append_own _ rfl _ _ 23 rfl (w.heap.size+1) 9 i0 (.string ⟨#[]⟩) 1 16 Tryz.underlying23 hi iz0 iz1 iz2 rfl (by decide) _ _ _ rfl HO7.out ⟨g1,0,none⟩ rl cap (rn.map fun x=>Value.string (strB x)) rfl hlen1 hcells hone (by unfold maxLen;omega) (by omega) (by omega) ?_;intro v' w8 hown' hgrow _;obtain ⟨A3,c3,rfl⟩:=own_slice hown';have HO8:=Lib.hid hown';have H8:=Lib.hid (H7.out.kept hgrow (own_ne2 HO7.out (by omega)) (own_ne2 HO7.out (by omega)));have HE8:=Lib.hid (HE7.out.kept hgrow (own_ne2 HO7.out (by omega)));have HG8:=Lib.hid (grown_own2 HG7.out hgrow (fun k hk=>by have:=own_from2 HO7.out hk;omega));clear hown' hgrow)
  obtain ⟨hn8,hc8⟩:=HKey.out A3 c3 w8 HO8.out
  have HN8:=Lib.hid hn8
  have HNn:Hid ((t1.s :: rn).length=1+rl):=Lib.hid (by rw [List.length_cons,← HRl.out];omega)
  clear hn8
  have hz8:w.heap.size < w8.heap.size:=HE8.out.lt
  have hg9:w8.grownBy (w8.alloc (.cells #[.string ⟨#[61]⟩,.string ⟨#[99,108,111,115,101]⟩,.string ⟨#[105,110]⟩] 9)) none:=World.grownBy_alloc _ _ _
  have HE9:=Lib.hid (HE8.out.kept hg9 (by simp))
  have HG9:=Lib.hid (grown_trans HG8.out (Below.grownBy' hg9))
  have HN9:=Lib.hid (HN8.out.keep (Same.of_grown hg9 (fun x hx=>by simp)))
  have hb9:=H8.out.blt
  refine (HB.out w8.heap.size _ HG9.out (H8.out.kept hg9 (by simp) (by simp)) (toks_new3 w8 b (by omega) [61] [99,108,111,115,101] [105,110] 9)).mono ?_
  rintro e w10 (⟨Al,capl,rfl,hl,hcp,hw⟩ | ⟨hF,nxF,hnF,rfl,dpF,hpF,hgF⟩)
  rotate_left
  ·exact ⟨rfl,.inr ⟨hF,nxF,hnF,rfl,dpF,hpF,grown_trans HG9.out hgF⟩⟩
  have H10:=Lib.hid hw.1
  have HE10:=Lib.hid (HE9.out.kept hw.2 (by simp;omega))
  have HG10:=Lib.hid (grown_trans HG9.out hw.2)
  have HN10:=Lib.hid (HN9.out.keep (Same.of_grown hw.2 (fun x hx=>by simp;omega)))
  have HL10:=Lib.hid hl
  have HCp:=Lib.hid hcp
  have hz10:w.heap.size < w10.heap.size:=HE10.out.lt
  have e0:=HE10.out.c0
  have r0:=HE10.out.fr 0
  have e1:=HE10.out.c1
  have r1:=HE10.out.fr 1
  have e2:=HE10.out.c2
  have r2:=HE10.out.fr 2
  have e3:=HE10.out.c3
  have r3:=HE10.out.fr 3
  have e4:=HE10.out.c4
  have r4:=HE10.out.fr 4
  have e5:=HE10.out.c5
  have r5:=HE10.out.fr 5
  have e6:=HE10.out.c6
  have r6:=HE10.out.fr 6
  clear hl hcp hw HB
  go_wp2_with fail
  have hS:=Same.of_grown (P:=fun x=>w.heap.size+1≤x) (set7_grown w10 w.heap.size (.int .i64 17) (.int .i64 0) (.string ⟨#[]⟩) (.string ⟨#[]⟩) (.slice A3 (1+rl) c3) (.slice Al l.length capl) (.slice none 0 0)) (fun x hx=>by simp;omega)
  refine bodyPost_retF (res_using rfl (HE10.out.all _ _ _ _ _ _ _)) rfl ⟨17,0,⟨#[]⟩,⟨#[]⟩,A3,1+rl,c3,Al,l.length,capl,none,0,0,rfl,⟨A3,c3,Al,capl,none,0,by rw [HNn.out];rfl,⟨okN_small (by omega),okN_small (by omega),okS_nil,Nat.zero_le _,?_,by rw [HNn.out];exact hc8,HCp.out,⟨Nat.le_refl _,Nat.zero_le _⟩⟩,(HN10.out.keep hS).weaken (fun x hx=>by omega),fun h0=>?_,fun h=>absurd rfl h,rfl⟩,H10.out.kept (set7_grown _ _ _ _ _ _ _ _ _) (by simp;omega) (by simp;omega),grown_7 HG10.out (Nat.le_refl _) _ _ _ _ _ _ _⟩
  ·intro x hx
   rcases List.mem_cons.1 hx with rfl | hx
   ·exact HOk.out.1
   ·exact HOk.out.2 x hx
  ·obtain ⟨y,off,e,h1,h2,h3⟩:=HL10.out h0
   have h1':w.heap.size+1≤y:=by simp at h1;omega
   exact ⟨y,off,e,by omega,Nat.lt_of_lt_of_le h2 hS.1,((h3.weaken (Q:=fun x=>w.heap.size+1≤x) (fun x hx=>by simp at hx;omega)).keep hS h1' h2).weaken (fun y hy=>by omega)⟩
theorem names_keep {b:Nat}{w w':World}{A:Option Addr}{L:List Txt}(h:NamesAt (fun z=>z≠b) w A L)(hg:w.grownBy w' (some b)):NamesAt (fun z=>z≠b) w' A L :=
 h.keep (Same.of_grown hg (fun _ hx e=>hx (Option.some.inj e)))
theorem rdX_fun {e0:Ex}{a:Txt}(ha:isV a=true)(r0:RdX e0):RdX (.mk 4 0 [] [] [a] [e0] [] []):=by
 intro F b g go c ts nx dp w hp hok hk hf hd hF
 have he0:hE e0+1≤hE (.mk 4 0 [] [] [a] [e0] [] []):=hE_part (by simp [Ex.parts,Ex.l,Ex.bs])
 have hin:atKE 0 (.mk 4 0 [] [] [a] [e0] [] [])=(1,[102,117,110],0) :: (0,a,0) :: behKE [((4,[45,62],0),e0)]:=by
  rw [atKE_in (lvl (b:=0) rfl (by decide)),k_fun,wk_k (show isKw [102,117,110]=true by decide),wk_v ha]
  simp [behKE]
 rw [hin] at hk hf ⊢
 obtain ⟨t,ht,tk,tsx,_⟩:=hk.head
 obtain ⟨u0,hu0,uk0,us0,_⟩:=hk.tail.head
 have kb:=hk.tail.tail
 have hend:nx+((1,[102,117,110],0) :: (0,a,0) :: behKE [((4,[45,62],0),e0)]:List Ky).length=nx+1+1+(behKE [((4,[45,62],0),e0)]).length:=by simp only [List.length_cons];omega
 rw [hend] at hf ⊢
 have hlt:=at_lt ht
 have hlm:=hok.1
 refine exprF_any b g go c ts nx dp _ _ w hp hd (hF.imp_left fun _=>by omega) (at_lt ht) (Lib.hid fun hd1 x w1 hp1 hx1=>?_)
 refine expr1_fun x b g go c ts nx _ (dp+1) t _ w1 hp1 hx1 ht tsx (Lib.hid fun q w2 hg2 hp2 hN=>?_)
 refine pOpen_any b g go c ts nx _ (dp+1) 4 [a] [e0] (some ⟨q,0,none⟩) 1 1 w2 hp2 (okN_small (by omega)) (by omega) hok.1 (by simp) (fun x hx=>?_) (fun kk x hx=>?_) (Lib.hid fun w3 hg3 hp3=>?_)
 ·simp only [List.mem_cons,List.not_mem_nil,or_false] at hx
  rcases hx with rfl
  ·exact okS_v ha
 ·match kk,hx with
  | 0,hx=>simp only [List.getElem?_cons_zero,Option.some.injEq] at hx;subst hx;exact ⟨u0,hu0,uk0,us0⟩
  | kk+1,hx=>simp at hx
 ·refine beh_read [((4,[45,62],0),e0)] b g go c ts _ (dp+1) (some ⟨q,0,none⟩) 1 w3 hp3 hok kb hf (by simp) (fun x hx=>?_) (fun kk x hx=>?_) hd1 (fun x hx=>?_) (names_keep hN hg3)
  ·simp only [List.mem_cons,List.not_mem_nil,or_false] at hx
   rcases hx with rfl
   ·exact r0
  ·match kk,hx with
   | kk+0,hx=>simp at hx
  ·simp only [List.mem_cons,List.not_mem_nil,or_false] at hx
   unfold Dp
   rcases hx with rfl
   ·show dp+1+2*hE e0≤400∨F;exact hF.imp_left fun _=>by omega
theorem rdX_let {e0 e1:Ex}{a:Txt}(ha:isV a=true)(r0:RdX e0)(r1:RdX e1):RdX (.mk 6 0 [] [] [a] [e0,e1] [] []):=by
 intro F b g go c ts nx dp w hp hok hk hf hd hF
 have he0:hE e0+1≤hE (.mk 6 0 [] [] [a] [e0,e1] [] []):=hE_part (by simp [Ex.parts,Ex.l,Ex.bs])
 have he1:hE e1+1≤hE (.mk 6 0 [] [] [a] [e0,e1] [] []):=hE_part (by simp [Ex.parts,Ex.l,Ex.bs])
 have hin:atKE 0 (.mk 6 0 [] [] [a] [e0,e1] [] [])=(1,[108,101,116],0) :: (0,a,0) :: behKE [((4,[61],0),e0),((1,[105,110],0),e1)]:=by
  rw [atKE_in (lvl (b:=0) rfl (by decide)),k_let,wk_k (show isKw [108,101,116]=true by decide),wk_v ha,wk_k (show isKw [105,110]=true by decide)]
  simp [behKE]
 rw [hin] at hk hf ⊢
 obtain ⟨t,ht,tk,tsx,_⟩:=hk.head
 obtain ⟨u0,hu0,uk0,us0,_⟩:=hk.tail.head
 have kb:=hk.tail.tail
 have hend:nx+((1,[108,101,116],0) :: (0,a,0) :: behKE [((4,[61],0),e0),((1,[105,110],0),e1)]:List Ky).length=nx+1+1+(behKE [((4,[61],0),e0),((1,[105,110],0),e1)]).length:=by simp only [List.length_cons];omega
 rw [hend] at hf ⊢
 have hlt:=at_lt ht
 have hlm:=hok.1
 refine exprF_any b g go c ts nx dp _ _ w hp hd (hF.imp_left fun _=>by omega) (at_lt ht) (Lib.hid fun hd1 x w1 hp1 hx1=>?_)
 refine expr1_let x b g go c ts nx _ (dp+1) t _ w1 hp1 hx1 ht tsx (Lib.hid fun q w2 hg2 hp2 hN=>?_)
 refine pOpen_any b g go c ts nx _ (dp+1) 6 [a] [e0,e1] (some ⟨q,0,none⟩) 2 2 w2 hp2 (okN_small (by omega)) (by omega) hok.1 (by simp) (fun x hx=>?_) (fun kk x hx=>?_) (Lib.hid fun w3 hg3 hp3=>?_)
 ·simp only [List.mem_cons,List.not_mem_nil,or_false] at hx
  rcases hx with rfl
  ·exact okS_v ha
 ·match kk,hx with
  | 0,hx=>simp only [List.getElem?_cons_zero,Option.some.injEq] at hx;subst hx;exact ⟨u0,hu0,uk0,us0⟩
  | kk+1,hx=>simp at hx
 ·refine beh_read [((4,[61],0),e0),((1,[105,110],0),e1)] b g go c ts _ (dp+1) (some ⟨q,0,none⟩) 2 w3 hp3 hok kb hf (by simp) (fun x hx=>?_) (fun kk x hx=>?_) hd1 (fun x hx=>?_) (names_keep hN hg3)
  ·simp only [List.mem_cons,List.not_mem_nil,or_false] at hx
   rcases hx with rfl | rfl
   ·exact r0
   ·exact r1
  ·match kk,hx with
   | 0,hx=>simp only [List.getElem?_cons_succ,List.getElem?_cons_zero,Option.some.injEq] at hx;subst hx;exact ⟨rfl,by simp [endW]⟩
   | kk+1,hx=>simp at hx
  ·simp only [List.mem_cons,List.not_mem_nil,or_false] at hx
   unfold Dp
   rcases hx with rfl | rfl
   ·show dp+1+2*hE e0≤400∨F;exact hF.imp_left fun _=>by omega
   ·show dp+1+2*hE e1≤400∨F;exact hF.imp_left fun _=>by omega
theorem rdX_rec {e0 e1:Ex}{a b0:Txt}(ha:isV a=true)(hb0:isV b0=true)(r0:RdX e0)(r1:RdX e1):RdX (.mk 7 0 [] [] [a,b0] [e0,e1] [] []):=by
 intro F b g go c ts nx dp w hp hok hk hf hd hF
 have he0:hE e0+1≤hE (.mk 7 0 [] [] [a,b0] [e0,e1] [] []):=hE_part (by simp [Ex.parts,Ex.l,Ex.bs])
 have he1:hE e1+1≤hE (.mk 7 0 [] [] [a,b0] [e0,e1] [] []):=hE_part (by simp [Ex.parts,Ex.l,Ex.bs])
 have hin:atKE 0 (.mk 7 0 [] [] [a,b0] [e0,e1] [] [])=(1,[114,101,99],0) :: (0,a,0) :: (0,b0,0) :: behKE [((4,[61],0),e0),((1,[105,110],0),e1)]:=by
  rw [atKE_in (lvl (b:=0) rfl (by decide)),k_rec,wk_k (show isKw [114,101,99]=true by decide),wk_v ha,wk_v hb0,wk_k (show isKw [105,110]=true by decide)]
  simp [behKE]
 rw [hin] at hk hf ⊢
 obtain ⟨t,ht,tk,tsx,_⟩:=hk.head
 obtain ⟨u0,hu0,uk0,us0,_⟩:=hk.tail.head
 obtain ⟨u1,hu1,uk1,us1,_⟩:=hk.tail.tail.head
 have kb:=hk.tail.tail.tail
 have hend:nx+((1,[114,101,99],0) :: (0,a,0) :: (0,b0,0) :: behKE [((4,[61],0),e0),((1,[105,110],0),e1)]:List Ky).length=nx+1+1+1+(behKE [((4,[61],0),e0),((1,[105,110],0),e1)]).length:=by simp only [List.length_cons];omega
 rw [hend] at hf ⊢
 have hlt:=at_lt ht
 have hlm:=hok.1
 refine exprF_any b g go c ts nx dp _ _ w hp hd (hF.imp_left fun _=>by omega) (at_lt ht) (Lib.hid fun hd1 x w1 hp1 hx1=>?_)
 refine expr1_rec x b g go c ts nx _ (dp+1) t _ w1 hp1 hx1 ht tsx (Lib.hid fun q w2 hg2 hp2 hN=>?_)
 refine pOpen_any b g go c ts nx _ (dp+1) 7 [a,b0] [e0,e1] (some ⟨q,0,none⟩) 2 2 w2 hp2 (okN_small (by omega)) (by omega) hok.1 (by simp) (fun x hx=>?_) (fun kk x hx=>?_) (Lib.hid fun w3 hg3 hp3=>?_)
 ·simp only [List.mem_cons,List.not_mem_nil,or_false] at hx
  rcases hx with rfl | rfl
  ·exact okS_v ha
  ·exact okS_v hb0
 ·match kk,hx with
  | 0,hx=>simp only [List.getElem?_cons_zero,Option.some.injEq] at hx;subst hx;exact ⟨u0,hu0,uk0,us0⟩
  | 1,hx=>simp only [List.getElem?_cons_succ,List.getElem?_cons_zero,Option.some.injEq] at hx;subst hx;exact ⟨u1,hu1,uk1,us1⟩
  | kk+2,hx=>simp at hx
 ·refine beh_read [((4,[61],0),e0),((1,[105,110],0),e1)] b g go c ts _ (dp+1) (some ⟨q,0,none⟩) 2 w3 hp3 hok kb hf (by simp) (fun x hx=>?_) (fun kk x hx=>?_) hd1 (fun x hx=>?_) (names_keep hN hg3)
  ·simp only [List.mem_cons,List.not_mem_nil,or_false] at hx
   rcases hx with rfl | rfl
   ·exact r0
   ·exact r1
  ·match kk,hx with
   | 0,hx=>simp only [List.getElem?_cons_succ,List.getElem?_cons_zero,Option.some.injEq] at hx;subst hx;exact ⟨rfl,by simp [endW]⟩
   | kk+1,hx=>simp at hx
  ·simp only [List.mem_cons,List.not_mem_nil,or_false] at hx
   unfold Dp
   rcases hx with rfl | rfl
   ·show dp+1+2*hE e0≤400∨F;exact hF.imp_left fun _=>by omega
   ·show dp+1+2*hE e1≤400∨F;exact hF.imp_left fun _=>by omega
theorem rdX_if {e0 e1 e2:Ex}(r0:RdX e0)(r1:RdX e1)(r2:RdX e2):RdX (.mk 8 0 [] [] [] [e0,e1,e2] [] []):=by
 intro F b g go c ts nx dp w hp hok hk hf hd hF
 have he0:hE e0+1≤hE (.mk 8 0 [] [] [] [e0,e1,e2] [] []):=hE_part (by simp [Ex.parts,Ex.l,Ex.bs])
 have he1:hE e1+1≤hE (.mk 8 0 [] [] [] [e0,e1,e2] [] []):=hE_part (by simp [Ex.parts,Ex.l,Ex.bs])
 have he2:hE e2+1≤hE (.mk 8 0 [] [] [] [e0,e1,e2] [] []):=hE_part (by simp [Ex.parts,Ex.l,Ex.bs])
 have hin:atKE 0 (.mk 8 0 [] [] [] [e0,e1,e2] [] [])=behKE [((1,[105,102],0),e0),((1,[116,104,101,110],0),e1),((1,[101,108,115,101],0),e2)]:=by
  rw [atKE_in (lvl (b:=0) rfl (by decide)),k_if,wk_k (show isKw [105,102]=true by decide),wk_k (show isKw [116,104,101,110]=true by decide),wk_k (show isKw [101,108,115,101]=true by decide)]
  simp [behKE]
 rw [hin] at hk hf ⊢
 have kb:=hk
 have hk0:KAt ts nx ((1,[105,102],0) :: (atKE 0 e0++behKE [((1,[116,104,101,110],0),e1),((1,[101,108,115,101],0),e2)])):=by simpa [behKE] using hk
 obtain ⟨t,ht,tk,tsx,_⟩:=hk0.head
 have hlt:=at_lt ht
 have hlm:=hok.1
 refine exprF_any b g go c ts nx dp _ _ w hp hd (hF.imp_left fun _=>by omega) (at_lt ht) (Lib.hid fun hd1 x w1 hp1 hx1=>?_)
 refine expr1_if x b g go c ts nx _ (dp+1) t [e0,e1,e2] w1 hp1 hx1 ht tsx (Lib.hid fun q w2 hg2 hp2 hN=>?_)
 refine beh_read [((1,[105,102],0),e0),((1,[116,104,101,110],0),e1),((1,[101,108,115,101],0),e2)] b g go c ts _ (dp+1) (some ⟨q,0,none⟩) 3 w2 hp2 hok kb hf (by simp) (fun x hx=>?_) (fun kk x hx=>?_) hd1 (fun x hx=>?_) hN
 ·simp only [List.mem_cons,List.not_mem_nil,or_false] at hx
  rcases hx with rfl | rfl | rfl
  ·exact r0
  ·exact r1
  ·exact r2
 ·match kk,hx with
  | 0,hx=>simp only [List.getElem?_cons_succ,List.getElem?_cons_zero,Option.some.injEq] at hx;subst hx;exact ⟨rfl,by simp [endW]⟩
  | 1,hx=>simp only [List.getElem?_cons_succ,List.getElem?_cons_zero,Option.some.injEq] at hx;subst hx;exact ⟨rfl,by simp [endW]⟩
  | kk+2,hx=>simp at hx
 ·simp only [List.mem_cons,List.not_mem_nil,or_false] at hx
  unfold Dp
  rcases hx with rfl | rfl | rfl
  ·show dp+1+2*hE e0≤400∨F;exact hF.imp_left fun _=>by omega
  ·show dp+1+2*hE e1≤400∨F;exact hF.imp_left fun _=>by omega
  ·show dp+1+2*hE e2≤400∨F;exact hF.imp_left fun _=>by omega
theorem rdX_using {e0 e1 e2:Ex}{a:Txt}{rn:List Txt}(ha:isV a=true)(hn:∀ x∈rn,isNm 2 x=true)(hl:rn.length≤100)(r0:RdX e0)(r1:RdX e1)(r2:RdX e2):RdX (.mk 17 0 [] [] (a :: rn) [e0,e1,e2] [] []):=by
 intro F b g go c ts nx dp w hp hok hk hf hd hF
 have he0:hE e0+1≤hE (.mk 17 0 [] [] (a :: rn) [e0,e1,e2] [] []):=hE_part (by simp [Ex.parts,Ex.l,Ex.bs])
 have he1:hE e1+1≤hE (.mk 17 0 [] [] (a :: rn) [e0,e1,e2] [] []):=hE_part (by simp [Ex.parts,Ex.l,Ex.bs])
 have he2:hE e2+1≤hE (.mk 17 0 [] [] (a :: rn) [e0,e1,e2] [] []):=hE_part (by simp [Ex.parts,Ex.l,Ex.bs])
 have hin:atKE 0 (.mk 17 0 [] [] (a :: rn) [e0,e1,e2] [] [])=(1,[117,115,105,110,103],0) :: (0,a,0) :: (4,[91],0) :: (listKy (4,[44],0) (rn.map fun x=>[wk x])++((4,[93],0) :: behKE [((4,[61],0),e0),((1,[99,108,111,115,101],0),e1),((1,[105,110],0),e2)])):=by
  rw [atKE_in (lvl (b:=0) rfl (by decide)),k_using,wk_k (show isKw [117,115,105,110,103]=true by decide),wk_v ha,wk_k (show isKw [99,108,111,115,101]=true by decide),wk_k (show isKw [105,110]=true by decide)]
  simp [behKE]
 rw [hin] at hk hf ⊢
 obtain ⟨t,ht,tk,tsx,_⟩:=hk.head
 obtain ⟨t1,ht1,tk1,tsx1,_⟩:=hk.tail.head
 obtain ⟨t2,ht2,tk2,tsx2,_⟩:=hk.tail.tail.head
 have kl:=hk.tail.tail.tail.left
 have kr:=hk.tail.tail.tail.right
 obtain ⟨t3,ht3,tk3,tsx3,_⟩:=kr.head
 have kb:=kr.tail
 have hend:nx+((1,[117,115,105,110,103],0) :: (0,a,0) :: (4,[91],0) :: (listKy (4,[44],0) (rn.map fun x=>[wk x])++((4,[93],0) :: behKE [((4,[61],0),e0),((1,[99,108,111,115,101],0),e1),((1,[105,110],0),e2)])):List Ky).length=nx+1+1+1+(listKy (4,[44],0) (rn.map fun x=>[wk x])).length+1+(behKE [((4,[61],0),e0),((1,[99,108,111,115,101],0),e1),((1,[105,110],0),e2)]).length:=by simp only [List.length_cons,List.length_append];omega
 rw [hend] at hf ⊢
 have hat:∀ {kk:Nat} {x:Txt},rn[kk]?=some x→(rn.map fun x=>[wk x])[kk]?=some [wk x]:=fun h=>by rw [List.getElem?_map,h];rfl
 have hall:lsHd (4,[44],0) (rn.map fun x=>[wk x]) (nx+1+1+1) rn.length=nx+1+1+1+(listKy (4,[44],0) (rn.map fun x=>[wk x])).length:=by
  have:=lsHd_all (4,[44],0) (rn.map fun x=>[wk x]) (nx+1+1+1)
  rwa [List.length_map] at this
 refine exprF_any b g go c ts nx dp _ _ w hp hd (hF.imp_left fun _=>by omega) (at_lt ht) (Lib.hid fun hd1 x w1 hp1 hx1=>?_)
 refine expr1_using x b g go c ts nx _ (dp+1) t _ w1 hp1 hx1 ht tsx (Lib.hid fun w2 hg2 hp2=>?_)
 have:=using_any (F:=F) b g go c ts nx (nx+1+1+1+(listKy (4,[44],0) (rn.map fun x=>[wk x])).length) (nx+1+1+1+(listKy (4,[44],0) (rn.map fun x=>[wk x])).length+1+(behKE [((4,[61],0),e0),((1,[99,108,111,115,101],0),e1),((1,[105,110],0),e2)]).length) (dp+1) t t1 t2 t3 rn [e0,e1,e2] w2 hp2 ht tsx ht1 tk1 ht2 tsx2 ht3 tsx3 hok.1 ⟨(hok.2 _ _ ht1).1,fun x hx=>okS_u (hn x hx)⟩ (by omega)
  (Lib.hid fun z w3 hg3 hp3 hN=>by
   rw [← hall]
   refine sepS_any b g go c z ts (nx+1+1+1) (dp+1) rn (lsHd (4,[44],0) (rn.map fun x=>[wk x]) (nx+1+1+1)) w3 hp3 hN (lsHd_0 _ _ _) (by omega) hok.1 (fun kk x hx w4 hp4=>?_) (fun kk h0 hkk=>?_) (fun h0=>?_) ⟨t3,by rw [hall];exact ht3,tsx3⟩
   ·have hm:=hn x (List.mem_of_getElem? hx)
    have hka:=ls_at kl (hat hx)
    rw [wk_u hm] at hka
    obtain ⟨v,hv,vk,vs,_⟩:=hka.head
    have:=upper_ok b g go c ts _ (dp+1) v w4 hp4 hv vk hok.1
    rw [vs] at this
    rw [lsHd_succ (hat hx)]
    exact this
   ·obtain ⟨v,hv,_,h2⟩:=ls_sep kl h0 (by rw [List.length_map];exact hkk)
    exact ⟨v,hv,h2⟩
   ·obtain ⟨x,hx⟩:∃ x,rn[0]?=some x:=⟨_,List.getElem?_eq_getElem h0⟩
    have hm:=hn x (List.mem_of_getElem? hx)
    have hka:=ls_at kl (hat hx)
    rw [if_pos rfl,wk_u hm] at hka
    obtain ⟨v,hv,vk,vs,_⟩:=hka.head
    exact ⟨v,hv,by rw [vs];exact nm_ne2 hm 93 (by decide)⟩)
  (Lib.hid fun q w3 hg3 hp3 hN=>by
   refine beh_read [((4,[61],0),e0),((1,[99,108,111,115,101],0),e1),((1,[105,110],0),e2)] b g go c ts _ (dp+1) (some ⟨q,0,none⟩) 3 w3 hp3 hok kb hf (by simp) (fun x hx=>?_) (fun kk x hx=>?_) hd1 (fun x hx=>?_) hN
   ·simp only [List.mem_cons,List.not_mem_nil,or_false] at hx
    rcases hx with rfl | rfl | rfl
    ·exact r0
    ·exact r1
    ·exact r2
   ·match kk,hx with
    | 0,hx=>simp only [List.getElem?_cons_succ,List.getElem?_cons_zero,Option.some.injEq] at hx;subst hx;exact ⟨rfl,by simp [endW]⟩
    | 1,hx=>simp only [List.getElem?_cons_succ,List.getElem?_cons_zero,Option.some.injEq] at hx;subst hx;exact ⟨rfl,by simp [endW]⟩
    | kk+2,hx=>simp at hx
   ·simp only [List.mem_cons,List.not_mem_nil,or_false] at hx
    unfold Dp
    rcases hx with rfl | rfl | rfl
    ·show dp+1+2*hE e0≤400∨F;exact hF.imp_left fun _=>by omega
    ·show dp+1+2*hE e1≤400∨F;exact hF.imp_left fun _=>by omega
    ·show dp+1+2*hE e2≤400∨F;exact hF.imp_left fun _=>by omega)
 rwa [tsx1] at this
structure RdAll (e:Ex):Prop where
 x:RdX e
 a:RdA e
 c:RdC e
 o2:RdO 2 e
 o3:RdO 3 e
theorem RdAll.p2 {e:Ex}(h:RdAll e):RdP 2 e:=rdP_of h.o2
theorem RdAll.p3 {e:Ex}(h:RdAll e):RdP 3 e:=rdP_of h.o3
theorem RdAll.p4 {e:Ex}(h:RdAll e):RdP 4 e:=rdP4 h.c
theorem par_k {e:Ex}(h:¬ 5≤e.lv):∀ k r,atKE 5 e=k :: r→k.1≠0:=fun k r he=>by
 rw [atKE_out h] at he
 injection he with h1 _
 rw [← h1]
 show (4:Int)≠0
 decide
theorem all_0 {e:Ex}(h:RdX e)(hlv:e.lv=0)(hb:Bg0 (exK e))(hb5:Bg5 (atKE 5 e)):RdAll e:=by
 have a:=rdA_par h (by omega) hb
 have c:=rdC_atom a (by omega) hb5 (par_k (by omega))
 have o3:=rdO_up (l:=3) (by omega) (by omega) (rdP4 c)
 exact ⟨h,a,c,rdO_up (l:=2) (by omega) (by omega) (rdP_of o3),o3⟩
theorem all_4 {e:Ex}(c:RdC e)(hlv:e.lv=4)(hb:Bg1 (exK e)):RdAll e:=by
 have o3:=rdO_up (l:=3) (by omega) (by omega) (rdP4 c)
 have o2:=rdO_up (l:=2) (by omega) (by omega) (rdP_of o3)
 have x:=rdX_op (rdP_of (rdO_up (l:=1) (by omega) (by omega) (rdP_of o2))) (by omega) hb
 exact ⟨x,rdA_par x (by omega) hb.b0,c,o2,o3⟩
theorem all_5 {e:Ex}(a:RdA e)(c:RdC e)(hlv:e.lv=5)(hb:Bg1 (exK e)):RdAll e:=by
 have o3:=rdO_up (l:=3) (by omega) (by omega) (rdP4 c)
 have o2:=rdO_up (l:=2) (by omega) (by omega) (rdP_of o3)
 have x:=rdX_op (rdP_of (rdO_up (l:=1) (by omega) (by omega) (rdP_of o2))) (by omega) hb
 exact ⟨x,a,c,o2,o3⟩
theorem all_prim {s:Txt}{lv:Int}{e0 e1:Ex}(h:opLv s=some lv)(h0:RdAll e0)(h1:RdAll e1)(hb:Bg1 (exK (primE s e0 e1))):RdAll (primE s e0 e1):=by
 have hl:=lv_prim (a:=e0) (x:=e1) h
 have hbd:=opLv_bd h
 have hb5:Bg5 (atKE 5 (primE s e0 e1)):=b5_at fun hc=>by omega
 have fin:RdP 1 (primE s e0 e1)→RdX (primE s e0 e1)∧RdA (primE s e0 e1)∧RdC (primE s e0 e1):=fun hp=>by
  have x:=rdX_op hp (by omega) hb
  have a:=rdA_par x (by omega) hb.b0
  exact ⟨x,a,rdC_atom a (by omega) hb5 (par_k (by omega))⟩
 obtain rfl | rfl | rfl:lv=1∨lv=2∨lv=3:=by omega
 ·obtain ⟨x,a,c⟩:=fin (rdP_cmp h h0.p2 h1.p2)
  have o3:=rdO_up (l:=3) (by omega) (by omega) (rdP4 c)
  exact ⟨x,a,c,rdO_up (l:=2) (by omega) (by omega) (rdP_of o3),o3⟩
 ·have o2:=rdO_prim (l:=2) (by omega) h h0.o2 h1.p3
  obtain ⟨x,a,c⟩:=fin (rdP_of (rdO_up (l:=1) (by omega) (by omega) (rdP_of o2)))
  exact ⟨x,a,c,o2,rdO_up (l:=3) (by omega) (by omega) (rdP4 c)⟩
 ·have o3:=rdO_prim (l:=3) (by omega) h h0.o3 h1.p4
  have o2:=rdO_up (l:=2) (by omega) (by omega) (rdP_of o3)
  obtain ⟨x,a,c⟩:=fin (rdP_of (rdO_up (l:=1) (by omega) (by omega) (rdP_of o2)))
  exact ⟨x,a,c,o2,o3⟩
theorem rd_all:∀ e,wfE e→evn e→RdAll e:=by
 refine Ex.ind fun e ih hw hv=>?_
 obtain ⟨b0,b1,b5⟩:=beg_all e hw hv
 have hpw:∀ x∈e.parts,RdAll x:=by
  cases e with
  | mk k n s t ns l ops bs =>
   intro x hx
   rcases List.mem_append.1 (show x∈l++bs from hx) with hx' | hx'
   ·exact ih x hx (hw.parts.2.1 x hx') (hv.parts.2.1 x hx')
   ·exact ih x hx (hw.parts.2.2 x hx') (hv.parts.2.2 x hx')
 clear ih
 have hf:=wf_frm e hw hv
 have at5:∀ {e:Ex},e.lv=5→Bg5 (exK e)→RdA e→(∀ k r,exK e=k :: r→k.1≠0)→RdAll e:=fun hl hb a hk=>by
  have hb5:=hb
  rw [← atKE_in (a:=5) (by omega)] at hb5 hk
  exact all_5 a (rdC_atom a (by omega) hb5 hk) hl hb.b1
 have kwne:∀ {s:Txt} {q r:List Ky} {k:Ky},isKw s=true→wk s :: q=k :: r→k.1≠0:=fun h he=>by
  rw [wk_k h] at he
  injection he with h1 _
  rw [← h1]
  show (1:Int)≠0
  decide
 cases hf with
 | var s h=>exact all_5 (rdA_var h) (rdC_var h) rfl (b5 (lvl (b:=5) rfl (by decide))).b1
 | int n h =>
  refine at5 rfl (b5 (lvl (b:=5) rfl (by decide))) (rdA_int h) fun k r he=>?_
  rw [k_int] at he
  split at he
  ·injection he with h1 _
   rw [← h1]
   show (4:Int)≠0
   decide
  ·injection he with h1 _
   rw [← h1]
   show (3:Int)≠0
   decide
 | bool n h =>
  refine at5 rfl (b5 (lvl (b:=5) rfl (by decide))) (rdA_bool h) fun k r he=>?_
  rw [k_bool] at he
  split at he
  ·exact kwne (by decide) he
  ·exact kwne (by decide) he
 | unit =>
  refine at5 rfl (b5 (lvl (b:=5) rfl (by decide))) rdA_unit fun k r he=>?_
  rw [k_unit] at he
  injection he with h1 _
  rw [← h1]
  show (4:Int)≠0
  decide
 | fn a e0 h=>exact all_0 (rdX_fun h (hpw e0 (by simp [Ex.parts,Ex.l,Ex.bs])).x) rfl b0 (b5_at b5)
 | app e0 e1=>exact all_4 (rdC_app (hpw e0 (by simp [Ex.parts,Ex.l,Ex.bs])).c (hpw e1 (by simp [Ex.parts,Ex.l,Ex.bs])).a (b5_at (beg_all e1 (hw.parts.2.1 e1 (by simp)) (hv.parts.2.1 e1 (by simp))).2.2)) rfl (b1 (lvl (b:=4) rfl (by decide)))
 | lett a e0 e1 h=>exact all_0 (rdX_let h (hpw e0 (by simp [Ex.parts,Ex.l,Ex.bs])).x (hpw e1 (by simp [Ex.parts,Ex.l,Ex.bs])).x) rfl b0 (b5_at b5)
 | recc a b e0 e1 h h'=>exact all_0 (rdX_rec h h' (hpw e0 (by simp [Ex.parts,Ex.l,Ex.bs])).x (hpw e1 (by simp [Ex.parts,Ex.l,Ex.bs])).x) rfl b0 (b5_at b5)
 | iff e0 e1 e2=>exact all_0 (rdX_if (hpw e0 (by simp [Ex.parts,Ex.l,Ex.bs])).x (hpw e1 (by simp [Ex.parts,Ex.l,Ex.bs])).x (hpw e2 (by simp [Ex.parts,Ex.l,Ex.bs])).x) rfl b0 (b5_at b5)
 | prim s lv e0 e1 h =>
  have hl:(Ex.mk 9 0 s [] [] [e0,e1] [] []).lv=lv:=lv_prim h
  have hbd:=opLv_bd h
  exact all_prim h (hpw e0 (by simp [Ex.parts,Ex.l,Ex.bs])) (hpw e1 (by simp [Ex.parts,Ex.l,Ex.bs])) (b1 (by omega))
 | con s l h hl =>
  refine at5 rfl (b5 (lvl (b:=5) rfl (by decide))) (rdA_con h hl fun x hx=>(hpw x (by simp [Ex.parts,Ex.l,Ex.bs,hx])).x) fun k r he=>?_
  rw [k_con,wk_u h] at he
  injection he with h1 _
  rw [← h1]
  show (2:Int)≠0
  decide
 | mtch e0 ops bs h h' h'' =>
  refine at5 rfl (b5 (lvl (b:=5) rfl (by decide))) (rdA_match h h' h'' (hpw e0 (by simp [Ex.parts,Ex.l,Ex.bs])).x fun x hx=>(hpw x (by simp [Ex.parts,Ex.l,Ex.bs,hx])).x) fun k r he=>?_
  rw [k_match] at he
  exact kwne (by decide) he
 | doo s e0 h=>exact all_4 (rdC_do h (hpw e0 (by simp [Ex.parts,Ex.l,Ex.bs])).a) rfl (b1 (lvl (b:=4) rfl (by decide)))
 | att s t e0 h h'=>exact all_4 (rdC_at h h' (hpw e0 (by simp [Ex.parts,Ex.l,Ex.bs])).a) rfl (b1 (lvl (b:=4) rfl (by decide)))
 | handle n s e0 ops bs hn h h' h'' hc =>
  refine at5 rfl (b5 (lvl (b:=5) rfl (by decide))) (rdA_handle hn h h' h'' hc (hpw e0 (by simp [Ex.parts,Ex.l,Ex.bs])).x fun x hx=>(hpw x (by simp [Ex.parts,Ex.l,Ex.bs,hx])).x) fun k r he=>?_
  rw [k_handle] at he
  rcases hn with rfl | rfl
  ·exact kwne (by decide) he
  ·exact kwne (by decide) he
 | named s a e0 ops bs h h' h'' hb hc =>
  refine at5 rfl (b5 (lvl (b:=5) rfl (by decide))) (rdA_named h h' h'' hb hc (hpw e0 (by simp [Ex.parts,Ex.l,Ex.bs])).x fun x hx=>(hpw x (by simp [Ex.parts,Ex.l,Ex.bs,hx])).x) fun k r he=>?_
  rw [k_named] at he
  exact kwne (by decide) he
 | mask s e0 h=>exact all_4 (rdC_mask h (hpw e0 (by simp [Ex.parts,Ex.l,Ex.bs])).a) rfl (b1 (lvl (b:=4) rfl (by decide)))
 | usin a rn e0 e1 e2 h h' h''=>exact all_0 (rdX_using h h' h'' (hpw e0 (by simp [Ex.parts,Ex.l,Ex.bs])).x (hpw e1 (by simp [Ex.parts,Ex.l,Ex.bs])).x (hpw e2 (by simp [Ex.parts,Ex.l,Ex.bs])).x) rfl b0 (b5_at b5)
 | resume s e0 h=>exact all_4 (rdC_resume h (hpw e0 (by simp [Ex.parts,Ex.l,Ex.bs])).a) rfl (b1 (lvl (b:=4) rfl (by decide)))
 | drop s h=>exact all_4 (rdC_drop h) rfl (b1 (lvl (b:=4) rfl (by decide)))
theorem res_pe {tmps:Array Value}{w:World}{g:Nat}{v0 v1 v2 v3 v4 v5 v6 x5 x6:Value}(h4:tmps.getD 2 undef=.pointer (some ⟨g,0,none⟩))(h5:tmps.getD 3 undef=x5)(h6:tmps.getD 4 undef=x6)(h:EB w g v0 v1 v2 v3 v4 v5 v6) :
  (results Tryz.f8 tmps).run Tryz.prog w=.ok (.tuple #[.agg #[v0,v1,v2,v3,v4,v5,v6],x5,x6]) w:=by
 have c0:=h.c0
 have c1:=h.c1
 have c2:=h.c2
 have c3:=h.c3
 have c4:=h.c4
 have c5:=h.c5
 have c6:=h.c6
 have h4':tmps[2]?.getD undef=.pointer (some ⟨g,0,none⟩):=by simpa using h4
 have h5':tmps[3]?.getD undef=x5:=by simpa using h5
 have h6':tmps[4]?.getD undef=x6:=by simpa using h6
 simp [results,Tryz.results8,go_sem,h4',h5',h6',c0,c1,c2,c3,c4,c5,c6]
theorem pe_prep (w:World):Below w.heap.size w (w.alloc (.cells #[.int .i64 0,.int .i64 0,.string ⟨#[]⟩,.string ⟨#[]⟩,.slice none 0 0,.slice none 0 0,.slice none 0 0] 27)):=(Below.refl _ _).alloc (Nat.le_refl _) _
set_option maxRecDepth 100000 in
set_option maxHeartbeats 2000000 in
theorem parseExpr_fail (s:ByteArray)(pos:Int)(w:World)
  (HP:Hid (∀ w',Below w.heap.size w w'→Calls Tryz.prog 19 #[.string s,.func (.func 20) #[] #[],.func (.func 13) #[] #[]] w' (ParseFail w' pos))) :
  Calls Tryz.prog 8 #[.string s] w (ParseFail w pos):=by
 have HE0:=Lib.hid (EB.new w (.int .i64 0) (.int .i64 0) (.string ⟨#[]⟩) (.string ⟨#[]⟩) (.slice none 0 0) (.slice none 0 0) (.slice none 0 0))
 have HB0:=Lib.hid (pe_prep w)
 go_enter Tryz.func8,Tryz.ntmps8
 go_wp2_with fail
 refine (HP.out _ HB0.out).mono ?_
 rintro e w6 ⟨rfl,hb⟩
 have HE6:=Lib.hid (HE0.out.kept (grown_below hb none) (by simp))
 have HB6:=Lib.hid (HB0.out.trans (hb.mono (by simp)))
 have hz6:=HE6.out.lt
 have e0:=HE6.out.c0
 have r0:=HE6.out.fr 0
 have e1:=HE6.out.c1
 have r1:=HE6.out.fr 1
 have e2:=HE6.out.c2
 have r2:=HE6.out.fr 2
 have e3:=HE6.out.c3
 have r3:=HE6.out.fr 3
 have e4:=HE6.out.c4
 have r4:=HE6.out.fr 4
 have e5:=HE6.out.c5
 have r5:=HE6.out.fr 5
 have e6:=HE6.out.c6
 have r6:=HE6.out.fr 6
 clear hb HP
 go_wp2_with fail
 exact bodyPost_ret (res_pe rfl rfl rfl (HE6.out.all _ _ _ _ _ _ _)) rfl ⟨rfl,HB6.out.grown (set7_grown _ _ _ _ _ _ _ _ _) (by omega) (fun j e=>by have:w.heap.size=j:=Option.some.inj e;omega)⟩
def xsB:List Tk:=[⟨1,[108,101,116],0,0⟩,⟨0,[120],0,4⟩,⟨4,[61],0,6⟩,⟨3,[],1,8⟩]
theorem lexB:lexS [108,101,116,32,120,32,61,32,49]=(xsB,0,0):=by kernel_rfl
def AllF (F:Prop)(w:World)(b:Nat)(ex:Ex)(e:Ending)(w':World):Prop:=AllTo w b ex e w'∨(F∧∃ pos,AllFail w b pos e w')
def ParseF (F:Prop)(w:World)(ex:Ex)(e:Ending)(w':World):Prop:=ParseTo w ex e w'∨(F∧∃ pos,ParseFail w pos e w')
set_option maxRecDepth 100000 in
set_option maxHeartbeats 4000000 in
theorem readAllF {F:Prop}(b g go c:Nat)(ts:List Rt)(nx:Nat)(ex:Ex)(t:Rt)(w:World)(h:PS w b g go c ts 0 0)(ht:ts[nx]?=some t)(hk:t.k=5)(hlen:ts.length≤100000)
  (HC:Hid (∀ w',PS w' b g go c ts 0 0→Calls Tryz.prog 20 #[.pointer (some ⟨b,0,none⟩)] w' (OF F w' b g go c ts (ExprTo w' b g go c ts nx 0 ex)))) :
  Calls Tryz.prog 53 #[.pointer (some ⟨b,0,none⟩),.func (.func 20) #[] #[]] w (AllF F w b ex):=by
 have hmf:∀ (fn:Fn) (first cap:Array Value) (w:World),(Instr.makeFunc fn first cap).run Tryz.prog w=.ok (.func fn first cap) w:=fun _ _ _ _=>rfl
 have hbl:=h.blt
 have hgl:=h.lt
 have HTk:=Lib.hid (fun w h=>token_ok b g go c ts nx 0 t w h ht hlen)
 rw [hk] at HTk
 have H0:Hid (PS (W0 w b) b g go c ts 0 0):=h.kept (W0_grown w b none) (by simp) (by simp)
 have HX0:=Lib.hid (W0_box w b)
 have HE0:=Lib.hid (W0_E w b)
 have H50:=Lib.hid (W0_5 w b)
 have H60:=Lib.hid (W0_6 w b)
 have HG0:=Lib.hid (W0_grown w b (some b))
 have HZ0:=Lib.hid (W0_size w b)
 clear h ht hk hlen
 go_enter_defers Tryz.func53,Tryz.ntmps53
 go_wp2_with fail
 refine (HC.out _ H0.out).mono ?_
 rintro e w2 (⟨k,n,s,u,A0,n0,m0,A1,n1,m1,A2,n2,m2,rfl,hr,hw⟩ | ⟨hF,nxF,hnF,rfl,dp,hp,hg⟩)
 rotate_left
 ·have HTn:=Lib.hid (List.getElem?_eq_getElem hnF)
  have hz:=HZ0.out
  have hzg:=hg.size
  have HX2:=Lib.hid (HX0.out.kept hg (by simp;omega))
  have HE2:=Lib.hid (HE0.out.kept hg (by simp;omega))
  have H52:=Lib.hid (H50.out.kept hg (by simp;omega))
  have H62:=Lib.hid (H60.out.kept hg (by simp;omega))
  have HG2:=Lib.hid (grown_trans HG0.out hg)
  have hz2:w.heap.size+4≤w2.heap.size:=by omega
  refine leaves_cons (f:=83) (args:=#[.pointer (some ⟨w.heap.size,0,none⟩),.pointer (some ⟨w.heap.size+1+1,0,none⟩),.pointer (some ⟨w.heap.size+1+1+1,0,none⟩)]) (by simp) (by simp [go_sem]) ?_
  refine (catch_fail _ _ _ b g go c ts nxF dp (ts[nxF]'hnF) (.int .i64 0) _ hp HX2.out HTn.out H52.out H62.out (by omega)).mono ?_
  rintro e u' w'' ⟨rfl,rfl,w3,hb,rfl⟩
  have HE3:=HE2.out.kept (grown_below hb none) (by simp)
  have H53:=H52.out.kept (grown_below hb none) (by simp)
  have H63:=H62.out.kept (grown_below hb none) (by simp)
  have HG3:=grown_trans HG2.out (grown_below hb _)
  refine ⟨_,res_all rfl rfl rfl ((HE3.kept (grown_set _ ⟨w.heap.size+1+1,0,none⟩ _) (by simp <;> omega)).kept (grown_set _ ⟨w.heap.size+1+1+1,0,none⟩ _) (by simp <;> omega)) ((H53.set _).kept (grown_set _ ⟨w.heap.size+1+1+1,0,none⟩ _) (by simp <;> omega)) ((H63.kept (grown_set _ ⟨w.heap.size+1+1,0,none⟩ _) (by simp <;> omega)).set _),.inr ⟨hF,_,rfl,grown_new (grown_new HG3 (by omega) _) (by omega) _⟩⟩
 have hz:=HZ0.out
 have hzg:=hw.2.size
 have HR2:=Lib.hid (hr.weaken (Q:=fun x=>w.heap.size+4≤x) (fun x hx=>by omega)).tight
 have HP2:=Lib.hid hw.1
 have HX2:=Lib.hid (HX0.out.kept hw.2 (by simp;omega))
 have HE2:=Lib.hid (HE0.out.kept hw.2 (by simp;omega))
 have H52:=Lib.hid (H50.out.kept hw.2 (by simp;omega))
 have H62:=Lib.hid (H60.out.kept hw.2 (by simp;omega))
 have HG2:=Lib.hid (grown_trans HG0.out hw.2)
 have hz2:w.heap.size+4≤w2.heap.size:=by omega
 have x2:=HX2.out.c
 have x2l:=HX2.out.lt
 clear hr hw hz hzg HC
 go_wp2_with fail
 obtain ⟨W3,hW3⟩:∃ W3,w2.alloc (.cells #[.int .i64 k,.int .i64 n,.string s,.string u,.slice A0 n0 m0,.slice A1 n1 m1,.slice A2 n2 m2] 27)=W3:=⟨_,rfl⟩
 have hg3:w2.grownBy W3 none:=by rw [← hW3];exact World.grownBy_alloc _ _ _
 have HP3:=Lib.hid (HP2.out.kept hg3 (by simp) (by simp))
 have HX3:=Lib.hid (HX2.out.kept hg3 (by simp))
 have HE3:=Lib.hid (HE2.out.kept hg3 (by simp))
 have H53:=Lib.hid (H52.out.kept hg3 (by simp))
 have H63:=Lib.hid (H62.out.kept hg3 (by simp))
 have HG3:=Lib.hid (grown_trans HG2.out (Below.grownBy' hg3))
 have HT3:Hid (EB W3 w2.heap.size (.int .i64 k) (.int .i64 n) (.string s) (.string u) (.slice A0 n0 m0) (.slice A1 n1 m1) (.slice A2 n2 m2)):=by rw [← hW3];exact EB.new w2 _ _ _ _ _ _ _
 have HR3:=Lib.hid (HR2.out.keep (Same.of_grown hg3 (fun _ _=>by simp)))
 rw [hW3]
 clear hW3 hg3 x2 x2l
 refine (HTk.out _ HP3.out).mono ?_
 rintro e w4 ⟨rfl,hw⟩
 have HX4:=Lib.hid (HX3.out.kept hw.2 (by simp;omega))
 have HE4:=Lib.hid (HE3.out.kept hw.2 (by simp;omega))
 have H54:=Lib.hid (H53.out.kept hw.2 (by simp;omega))
 have H64:=Lib.hid (H63.out.kept hw.2 (by simp;omega))
 have HT4:=Lib.hid (HT3.out.kept hw.2 (by simp;omega))
 have HG4:=Lib.hid (grown_trans HG3.out hw.2)
 have HR4:=Lib.hid (HR3.out.keep (Same.of_grown hw.2 (fun x hx=>by have h1:=hx.1;simp;omega)))
 have e0:=HE4.out.c0
 have r0:=HE4.out.fr 0
 have d0:=HT4.out.c0
 have e1:=HE4.out.c1
 have r1:=HE4.out.fr 1
 have d1:=HT4.out.c1
 have e2:=HE4.out.c2
 have r2:=HE4.out.fr 2
 have d2:=HT4.out.c2
 have e3:=HE4.out.c3
 have r3:=HE4.out.fr 3
 have d3:=HT4.out.c3
 have e4:=HE4.out.c4
 have r4:=HE4.out.fr 4
 have d4:=HT4.out.c4
 have e5:=HE4.out.c5
 have r5:=HE4.out.fr 5
 have d5:=HT4.out.c5
 have e6:=HE4.out.c6
 have r6:=HE4.out.fr 6
 have d6:=HT4.out.c6
 have x5:=H54.out.c
 have y5:=H54.out.fr 0
 have x6:=H64.out.c
 have y6:=H64.out.fr 0
 clear hw
 go_wp2_with fail
 obtain ⟨W5,hW5⟩:∃ W5,((set7 w4 (w.heap.size+1) (.int .i64 k) (.int .i64 n) (.string s) (.string u) (.slice A0 n0 m0) (.slice A1 n1 m1) (.slice A2 n2 m2)).setCell ⟨w.heap.size+1+1,0,none⟩ (.int .i64 0)).setCell ⟨w.heap.size+1+1+1,0,none⟩ (.int .i64 0)=W5:=⟨_,rfl⟩
 have HE5:Hid (EB W5 (w.heap.size+1) (.int .i64 k) (.int .i64 n) (.string s) (.string u) (.slice A0 n0 m0) (.slice A1 n1 m1) (.slice A2 n2 m2)):=by
  rw [← hW5];exact ((HE4.out.all _ _ _ _ _ _ _).kept (grown_set _ ⟨w.heap.size+1+1,0,none⟩ _) (by simp)).kept (grown_set _ ⟨w.heap.size+1+1+1,0,none⟩ _) (by simp <;> omega)
 have H55:Hid (B1 W5 (w.heap.size+1+1) 3 (.int .i64 0)):=by
  rw [← hW5];exact ((H54.out.kept (set7_grown _ _ _ _ _ _ _ _ _) (by simp <;> omega)).set _).kept (grown_set _ ⟨w.heap.size+1+1+1,0,none⟩ _) (by simp)
 have H65:Hid (B1 W5 (w.heap.size+1+1+1) 30 (.int .i64 0)):=by
  rw [← hW5];exact ((H64.out.kept (set7_grown _ _ _ _ _ _ _ _ _) (by simp <;> omega)).kept (grown_set _ ⟨w.heap.size+1+1,0,none⟩ _) (by simp <;> omega)).set _
 have HR5:Hid (RepE (fun x=>w.heap.size≤x) W5 ex [.int .i64 k,.int .i64 n,.string s,.string u,.slice A0 n0 m0,.slice A1 n1 m1,.slice A2 n2 m2]):=by
  rw [← hW5]
  exact (((HR4.out.keep (Same.of_grown (set7_grown _ _ _ _ _ _ _ _ _) (fun x hx=>by have h1:=hx.1;simp;omega))).keep (Same.of_grown (grown_set _ ⟨w.heap.size+1+1,0,none⟩ _) (fun x hx=>by have h1:=hx.1;simp;omega))).keep (Same.of_grown (grown_set _ ⟨w.heap.size+1+1+1,0,none⟩ _) (fun x hx=>by have h1:=hx.1;simp;omega))).weaken (fun x hx=>by have h1:=hx.1;omega)
 have HG5:Hid (w.grownBy W5 (some b)):=by
  rw [← hW5];exact grown_new (grown_new (grown_7 HG4.out (by omega) _ _ _ _ _ _ _) (by omega) _) (by omega) _
 unfold set7 at hW5
 rw [hW5]
 clear hW5
 refine leaves_cons (f:=83) (args:=#[.pointer (some ⟨w.heap.size,0,none⟩),.pointer (some ⟨w.heap.size+1+1,0,none⟩),.pointer (some ⟨w.heap.size+1+1+1,0,none⟩)]) (by simp) (by simp [go_sem]) ?_
 refine (catch_idle _ _ _ _).mono ?_
 rintro e u' w'' ⟨rfl,rfl,rfl⟩
 exact ⟨_,res_all rfl rfl rfl HE5.out H55.out H65.out,.inl ⟨k,n,s,u,A0,n0,m0,A1,n1,m1,A2,n2,m2,rfl,HR5.out,HG5.out⟩⟩
set_option maxRecDepth 100000 in
set_option maxHeartbeats 4000000 in
theorem parseF {F:Prop}(s:ByteArray)(xs:List Tk)(ts:List Rt)(ex:Ex)(w:World)(hY:Syms w)(hs:s.size≤30000)(hlex:lexS s.data.toList=(xs,0,0))(hx:0 < xs.length∧xs.length≤30001)(hts:(xs++[(⟨5,[],0,s.size⟩:Tk)]).map rtOf=ts)
  (HR:Hid (∀ b g go c w',PS w' b g go c ts 0 0→Calls Tryz.prog 53 #[.pointer (some ⟨b,0,none⟩),.func (.func 20) #[] #[]] w' (AllF F w' b ex)))
  (HK:Hid (∀ k n s t A0 n0 c0 A1 n1 c1 A2 n2 c2 w',Below w.heap.size w w'→RepE (fun x=>w.heap.size≤x) w' ex [.int .i64 k,.int .i64 n,.string s,.string t,.slice A0 n0 c0,.slice A1 n1 c1,.slice A2 n2 c2]→Calls Tryz.prog 13 #[.agg #[.int .i64 k,.int .i64 n,.string s,.string t,.slice A0 n0 c0,.slice A1 n1 c1,.slice A2 n2 c2]] w' fun e w''=>e=.returned (.int .i64 0)∧Below w'.heap.size w' w'')) :
  Calls Tryz.prog 19 #[.string s,.func (.func 20) #[] #[],.func (.func 13) #[] #[]] w (ParseF F w ex):=by
 obtain ⟨i0,hi,hz0,hz1,hz2⟩:=info_parts info43
 have hmax:s.size≤maxLen:=by unfold maxLen;omega
 have HL:=Lib.hid (fun w hY=>Lex_any s w hY hmax)
 rw [hlex] at HL
 have HYs:Hid (Syms (w.alloc (.cells #[.int .i64 0,.int .i64 0,.string ⟨#[]⟩,.string ⟨#[]⟩,.slice none 0 0,.slice none 0 0,.slice none 0 0] 27))):=hY.grown (World.grownBy_alloc _ _ none) (by simp)
 have HE0:=Lib.hid (EB.new w (.int .i64 0) (.int .i64 0) (.string ⟨#[]⟩) (.string ⟨#[]⟩) (.slice none 0 0) (.slice none 0 0) (.slice none 0 0))
 have HZ:Hid ((w.alloc (.cells #[.int .i64 0,.int .i64 0,.string ⟨#[]⟩,.string ⟨#[]⟩,.slice none 0 0,.slice none 0 0,.slice none 0 0] 27)).heap.size=w.heap.size+1):=Lib.hid (World.size_alloc _ _)
 have HB0:Hid (Below w.heap.size w (w.alloc (.cells #[.int .i64 0,.int .i64 0,.string ⟨#[]⟩,.string ⟨#[]⟩,.slice none 0 0,.slice none 0 0,.slice none 0 0] 27))):=Lib.hid ((Below.refl _ _).alloc (Nat.le_refl _) _)
 have hlen:ts.length=xs.length+1:=by rw [← hts];simp
 have htok:=Lib.hid (fun (w':World) (base g cap:Nat) (h:w'.ownsRow base 74 4 (.slice (some ⟨g,0,none⟩) (xs.length+1) cap) (xs.length+1) (flat xs++tkCells ⟨5,[],0,s.size⟩))=>tok_cells (ts:=ts) (xs:=xs) (x:=⟨5,[],0,s.size⟩) hts h)
 have hxl:0 < xs.length∧xs.length≤30001:=hx
 clear hts hx hlex hY hmax
 go_enter Tryz.func19,Tryz.ntmps19
 go_wp2_with fail
 refine (HL.out _ HYs.out).mono ?_
 rintro e w2 ⟨v,rfl,ho,hb⟩
 simp only at ho ⊢
 rcases ho.2 with ⟨_,h0⟩ | ⟨g0,cap0,cur,rfl,hg0,_⟩
 ·omega
 have hzz:=HZ.out
 have ho':=ho
 rw [hzz] at ho' hg0
 have HO2:=Lib.hid ho'
 have HE2:=Lib.hid (HE0.out.kept (grown_below hb none) (by simp))
 have HB2:Hid (Below w.heap.size w w2):=HB0.out.trans (hb.mono (by omega))
 have hzw:w.heap.size+1≤w2.heap.size:=by have:=hb.size;omega
 have hgz:w.heap.size+1≤g0:=hg0
 have HC:=Lib.hid (cell_toks w2 ⟨5,[],0,s.size⟩ 74)
 clear ho ho' hb hzz HE0 HB0 HYs HL hg0
 go_wp2_with (at_builtin;refine wpList_append_own _ rfl _ _ 69 rfl (w.heap.size+1) 74 i0 (.agg #[.int .i64 0,.string ⟨#[]⟩,.int .i64 0,.int .i64 0]) 4 40 Tryz.underlying69 hi hz0 hz1 hz2 rfl (by decide) _ _ _ rfl (HO2.out.alloc _) ⟨w2.heap.size,0,none⟩ 1 1 (tkCells ⟨5,[],0,s.size⟩) rfl rfl HC.out (tk_one ⟨5,[],0,s.size⟩) (by unfold maxLen;omega) (by omega) (by simp;omega) ?_;intro v' w3 hown' hgrow _;obtain ⟨g,cap,rfl⟩:=ownsRow_succ hown';have HT3:=Lib.hid (htok.out _ _ _ _ hown');have HGr:=Lib.hid hgrow;have hgl3:=(hown'.lt _ rfl).2;clear hown' hgrow)
 have hz3:w2.heap.size+1≤w3.heap.size:=by have:=HGr.out.size;simpa using this
 have HB3:Hid (Below w.heap.size w w3):=Lib.hid ((HB2.out.alloc (by omega) _).grown HGr.out (by simp;omega) (fun j e=>by have:g0=j:=Option.some.inj e;omega))
 have HE3:=Lib.hid (HE2.out.kept (grown_trans (World.grownBy_alloc w2 _ _) HGr.out) (fun e=>by have:w.heap.size=g0:=Option.some.inj e;omega))
 clear HGr HO2 HC HE2 HB2
 refine (HR.out w3.heap.size g 0 cap _ ⟨by rw [hlen];exact heap_alloc_new w3 _,by omega,by simp;omega,fun j t hj i v hi=>(cell_grown (World.grownBy_alloc w3 _ none) hgl3 (by simp)).trans (HT3.out j t hj i v hi)⟩).mono ?_
 rintro e w5 (⟨k,n,u,t,A0,n0,m0,A1,n1,m1,A2,n2,m2,rfl,hr5,hg5⟩ | ⟨hF,pos,rfl,hg5⟩)
 rotate_left
 ·have HB5:Hid (Below w.heap.size w w5):=Lib.hid ((HB3.out.alloc (by omega) _).grown hg5 (by simp;omega) (fun j e=>by cases e;omega))
  have HE5:=Lib.hid ((HE3.out.kept (World.grownBy_alloc w3 _ none) (by simp)).kept hg5 (by simp;omega))
  have hz5:=HE5.out.lt
  have e0:=HE5.out.c0
  have r0:=HE5.out.fr 0
  have e1:=HE5.out.c1
  have r1:=HE5.out.fr 1
  have e2:=HE5.out.c2
  have r2:=HE5.out.fr 2
  have e3:=HE5.out.c3
  have r3:=HE5.out.fr 3
  have e4:=HE5.out.c4
  have r4:=HE5.out.fr 4
  have e5:=HE5.out.c5
  have r5:=HE5.out.fr 5
  have e6:=HE5.out.c6
  have r6:=HE5.out.fr 6
  clear hg5
  go_wp2_with fail
  exact bodyPost_ret (res_parse rfl rfl rfl ((HE5.out.all _ _ _ _ _ _ _).kept (World.grownBy_alloc _ _ none) (by simp))) rfl (.inr ⟨hF,pos,rfl,(HB5.out.grown (set7_grown _ _ _ _ _ _ _ _ _) (by omega) (fun j e=>by have:w.heap.size=j:=Option.some.inj e;omega)).alloc (by show _≤(set7 _ _ _ _ _ _ _ _ _).heap.size;simp [set7,World.setCell];omega) _⟩)
 have HB5:Hid (Below w.heap.size w w5):=Lib.hid ((HB3.out.alloc (by omega) _).grown hg5 (by simp;omega) (fun j e=>by cases e;omega))
 have HE5:=Lib.hid ((HE3.out.kept (World.grownBy_alloc w3 _ none) (by simp)).kept hg5 (by simp;omega))
 have hz5:=HE5.out.lt
 have HR5:Hid (RepE (fun x=>w.heap.size < x∧x < w5.heap.size) w5 ex [.int .i64 k,.int .i64 n,.string u,.string t,.slice A0 n0 m0,.slice A1 n1 m1,.slice A2 n2 m2]):=Lib.hid (hr5.tight.weaken (fun x hx=>by have h1:=hx.1;have h2:=hx.2;simp at h1;omega))
 clear hg5 hr5
 go_wp2_with fail
 refine (HK.out k n u t A0 n0 m0 A1 n1 m1 A2 n2 m2 _ (HB5.out.alloc HB5.out.size _) ((HR5.out.keep (Same.of_grown (World.grownBy_alloc w5 _ none) (fun _ _=>by simp))).weaken (fun x hx=>by have h1:=hx.1;omega))).mono ?_
 rintro e w6 ⟨rfl,hb⟩
 have hg6:w5.grownBy w6 none:=grown_trans (World.grownBy_alloc w5 _ _) (grown_below hb none)
 have HB6:Hid (Below w.heap.size w w6):=Lib.hid (HB5.out.grown hg6 (by omega) (fun j e=>by cases e))
 have HE6:=Lib.hid (HE5.out.kept hg6 (by simp))
 have HT6:=Lib.hid ((EB.new w5 (.int .i64 k) (.int .i64 n) (.string u) (.string t) (.slice A0 n0 m0) (.slice A1 n1 m1) (.slice A2 n2 m2)).kept (grown_below hb none) (by simp))
 have HR6:=Lib.hid (HR5.out.keep (Same.of_grown hg6 (fun _ _=>by simp)))
 have hz6:=hg6.size
 have e0:=HE6.out.c0
 have r0:=HE6.out.fr 0
 have d0:=HT6.out.c0
 have e1:=HE6.out.c1
 have r1:=HE6.out.fr 1
 have d1:=HT6.out.c1
 have e2:=HE6.out.c2
 have r2:=HE6.out.fr 2
 have d2:=HT6.out.c2
 have e3:=HE6.out.c3
 have r3:=HE6.out.fr 3
 have d3:=HT6.out.c3
 have e4:=HE6.out.c4
 have r4:=HE6.out.fr 4
 have d4:=HT6.out.c4
 have e5:=HE6.out.c5
 have r5:=HE6.out.fr 5
 have d5:=HT6.out.c5
 have e6:=HE6.out.c6
 have r6:=HE6.out.fr 6
 have d6:=HT6.out.c6
 clear hb hg6
 go_wp2_with fail
 exact bodyPost_ret (res_parse rfl rfl rfl (HE6.out.all _ _ _ _ _ _ _)) rfl (.inl ⟨k,n,u,t,A0,n0,m0,A1,n1,m1,A2,n2,m2,rfl,(HR6.out.keep (Same.of_grown (set7_grown _ _ _ _ _ _ _ _ _) (fun x hx=>by have h1:=hx.1;simp;omega))).weaken (fun x hx=>by have h1:=hx.1;omega),HB6.out.grown (set7_grown _ _ _ _ _ _ _ _ _) (by omega) (fun j e=>by have:w.heap.size=j:=Option.some.inj e;omega)⟩)
set_option maxRecDepth 100000 in
set_option maxHeartbeats 4000000 in
theorem parseExprF {F:Prop}(s:ByteArray)(ex:Ex)(w:World)
  (HP:Hid (∀ w',Below w.heap.size w w'→Calls Tryz.prog 19 #[.string s,.func (.func 20) #[] #[],.func (.func 13) #[] #[]] w' (ParseF F w' ex))) :
  Calls Tryz.prog 8 #[.string s] w (ParseF F w ex):=by
 have HE0:=Lib.hid (EB.new w (.int .i64 0) (.int .i64 0) (.string ⟨#[]⟩) (.string ⟨#[]⟩) (.slice none 0 0) (.slice none 0 0) (.slice none 0 0))
 have HB0:=Lib.hid (pe_prep w)
 go_enter Tryz.func8,Tryz.ntmps8
 go_wp2_with fail
 refine (HP.out _ HB0.out).mono ?_
 rintro e w6 (⟨k,n,u,t,A0,n0,m0,A1,n1,m1,A2,n2,m2,rfl,hr,hb⟩ | ⟨hF,pos,rfl,hb⟩)
 rotate_left
 ·have HE6:=Lib.hid (HE0.out.kept (grown_below hb none) (by simp))
  have HB6:=Lib.hid (HB0.out.trans (hb.mono (by simp)))
  have hz6:=HE6.out.lt
  have e0:=HE6.out.c0
  have r0:=HE6.out.fr 0
  have e1:=HE6.out.c1
  have r1:=HE6.out.fr 1
  have e2:=HE6.out.c2
  have r2:=HE6.out.fr 2
  have e3:=HE6.out.c3
  have r3:=HE6.out.fr 3
  have e4:=HE6.out.c4
  have r4:=HE6.out.fr 4
  have e5:=HE6.out.c5
  have r5:=HE6.out.fr 5
  have e6:=HE6.out.c6
  have r6:=HE6.out.fr 6
  clear hb HP
  go_wp2_with fail
  exact bodyPost_ret (res_pe rfl rfl rfl (HE6.out.all _ _ _ _ _ _ _)) rfl (.inr ⟨hF,pos,rfl,HB6.out.grown (set7_grown _ _ _ _ _ _ _ _ _) (by omega) (fun j e=>by have:w.heap.size=j:=Option.some.inj e;omega)⟩)
 have HE6:=Lib.hid (HE0.out.kept (grown_below hb none) (by simp))
 have HB6:=Lib.hid (HB0.out.trans (hb.mono (by simp)))
 have HR6:=Lib.hid (hr.weaken (Q:=fun x=>w.heap.size < x) (fun x hx=>by simp at hx;omega))
 have hz6:=HE6.out.lt
 have e0:=HE6.out.c0
 have r0:=HE6.out.fr 0
 have e1:=HE6.out.c1
 have r1:=HE6.out.fr 1
 have e2:=HE6.out.c2
 have r2:=HE6.out.fr 2
 have e3:=HE6.out.c3
 have r3:=HE6.out.fr 3
 have e4:=HE6.out.c4
 have r4:=HE6.out.fr 4
 have e5:=HE6.out.c5
 have r5:=HE6.out.fr 5
 have e6:=HE6.out.c6
 have r6:=HE6.out.fr 6
 clear hb hr HP
 go_wp2_with fail
 exact bodyPost_ret (res_pe rfl rfl rfl (HE6.out.all _ _ _ _ _ _ _)) rfl (.inl ⟨k,n,u,t,A0,n0,m0,A1,n1,m1,A2,n2,m2,rfl,(HR6.out.keep (Same.of_grown (set7_grown _ _ _ _ _ _ _ _ _) (fun x hx=>by simp;omega))).weaken (fun x hx=>by omega),HB6.out.grown (set7_grown _ _ _ _ _ _ _ _ _) (by omega) (fun j e=>by have:w.heap.size=j:=Option.some.inj e;omega)⟩)
theorem op_triv {F:Prop}{b g go c:Nat}{ts:List Rt}{nx dp K:Nat}{e:Ex}{l:Int}(hl:1≤l∧l≤3)(hok:TokOk ts)(hf:EndF ts K)
  (HC:∀ w',PS w' b g go c ts nx dp→Calls Tryz.prog 60 #[.pointer (some ⟨b,0,none⟩),.int .i64 (l+1)] w' (OF F w' b g go c ts (ExprTo w' b g go c ts K dp e))) :
  ∀ w',PS w' b g go c ts nx dp→Calls Tryz.prog 60 #[.pointer (some ⟨b,0,none⟩),.int .i64 l] w' (OF F w' b g go c ts (ExprTo w' b g go c ts K dp e)):=fun w hp=>by
 refine opF_any b g go c ts nx dp l hl hok (fun ex n=>ex=e∧n=K) e K e K w hp (Lib.hid HC) ⟨rfl,rfl⟩ (Lib.hid ?_)
 rintro ex n ⟨rfl,rfl⟩
 obtain ⟨t,ht,_,h3,_⟩:=hf
 exact ⟨t,ht,.inl ⟨ne_op (m:=0) (fun k hk=>by rw [h3] at hk;cases hk) (by omega),rfl,rfl⟩⟩
theorem par_top {F:Prop}{e:Ex}(h:RdX e)(hlv:0≤e.lv)(hb:Bg0 (exK e))(b g go c:Nat)(ts:List Rt)(nx dp:Nat)(w:World)(hp:PS w b g go c ts nx dp)(hok:TokOk ts)(hk:KAt ts nx ((4,[40],0) :: (exK e++[(4,[41],0)])))(hf:EndF ts (nx+((4,[40],0) :: (exK e++[(4,[41],0)]):List Ky).length))(hd:dp≤400)(hF:dp+2+2*hE e≤400∨F) :
  Calls Tryz.prog 20 #[.pointer (some ⟨b,0,none⟩)] w (OF F w b g go c ts (ExprTo w b g go c ts (nx+((4,[40],0) :: (exK e++[(4,[41],0)]):List Ky).length) dp e)):=by
 obtain ⟨t,ht,tk,tsx,_⟩:=hk.head
 refine exprF_any b g go c ts nx dp _ e w hp hd (hF.imp_left fun _=>by omega) (at_lt ht) (Lib.hid fun hd1 x w1 hp1 hx1=>expr1F_op x b g go c ts nx (dp+1) _ e t w1 hp1 hx1 ht (by refine ⟨?_,?_,?_,?_,?_⟩ <;> (rw [tsx];decide)) (Lib.hid ?_))
 refine op_triv (l:=1) (by omega) hok hf (op_triv (l:=2) (by omega) hok hf (op_triv (l:=3) (by omega) hok hf fun w2 hp2=>opF_call b g go c ts nx (dp+1) _ e w2 hp2 (Lib.hid fun w3 hp3=>?_)))
 refine pCall_any b g go c ts nx (dp+1) (fun ex n=>ex=e∧n=nx+((4,[40],0) :: (exK e++[(4,[41],0)]):List Ky).length) e _ e _ w3 hp3 (Lib.hid fun w4 _ hp4=>head_sym b g go c ts nx (dp+1) t _ e w4 hp4 ht tk (no_head tsx (by decide)) (Lib.hid fun w5 _ hp5=>par_read h hlv hb F b g go c ts nx (dp+1) w5 hp5 hok hk hd1 (hF.imp_left fun _=>by omega))) ⟨rfl,rfl⟩ (Lib.hid ?_)
 rintro ex n ⟨rfl,rfl⟩
 obtain ⟨t',ht',h2,_⟩:=hf
 exact ⟨t',ht',.inl ⟨h2,rfl,rfl⟩⟩
def parT (e:Ex):Txt:=[40]++(textE e++[41])
theorem lexS_par {e:Ex}(h:wfE e)(hv:evn e)(hl:(parT e).length≤30000):∃ xs,lexS (parT e)=(xs,0,0)∧xs.map kyOf=(4,[40],0) :: (exK e++[(4,[41],0)]):=by
 have h1:LK ([40]++(textE e++([41]++[]))) (((4,[40],0):Ky) :: (exK e++((4,[41],0) :: []))):=LK.sy (x:=[40]) _ (lk_ex e h hv _ _ (NW.cons (by decide)) (LK.sy (x:=[41]) _ LK.nil (by simp))) (by simp)
 obtain ⟨xs,h2,h3⟩:=h1 ((parT e).length+1) 0 (by unfold parT;simp)
 have e1:[40]++(textE e++([41]++[]))=parT e:=by unfold parT;simp
 rw [e1] at h2
 refine ⟨xs,?_,h3⟩
 unfold lexS
 rw [if_neg (by omega),h2,if_neg (by simp)]
theorem lex_short {l:Txt}{xs:List Tk}(hl:l.length≤30000)(h:lexS l=(xs,0,0)):xs.length≤30001:=by
 unfold lexS at h
 rw [if_neg (by omega)] at h
 split at h
 ·have:=(Prod.mk.inj h).1
  rw [← this];simp
 ·have:=lexF_len (l.length+1) 0 l
  rw [(Prod.mk.inj h).1] at this
  omega
theorem lv_0 (e:Ex):0≤e.lv:=by
 unfold Ex.lv lvO
 split
 ·cases h:opLv e.s with
  | none=>exact Int.le_refl 0
  | some l =>
   have:=opLv_bd h
   show 0≤l
   omega
 ·repeat' split
  all_goals omega
theorem text_read {F:Prop}(e:Ex)(T:Txt)(ks:List Ky)(w:World)(hY:Syms w)(hU:Uses w)(hc:(msd chkN e).2.2=0)(hl:T.length≤30000)(h0:ks≠[])(hlex:∃ xs,lexS T=(xs,0,0)∧xs.map kyOf=ks)
  (HR:∀ (b g go c:Nat) (ts:List Rt) (w:World),PS w b g go c ts 0 0→TokOk ts→KAt ts 0 ks→EndF ts (0+ks.length)→Calls Tryz.prog 20 #[.pointer (some ⟨b,0,none⟩)] w (OF F w b g go c ts (ExprTo w b g go c ts (0+ks.length) 0 e))) :
  Calls Tryz.prog 8 #[.string (strB T)] w (ParseF F w e):=by
 obtain ⟨xs,hx,hks⟩:=hlex
 have hxl:xs.length=ks.length:=by rw [← hks,List.length_map]
 have hx0:0 < xs.length:=by
  rw [hxl]
  exact List.length_pos_iff.2 h0
 have hx1:=lex_short hl hx
 have hsz:(strB T).size=T.length:=by simp [strB,ByteArray.size]
 have hhe:hE e≤900000:=by have:=(msd_iff.1 hc).2.2;omega
 refine parseExprF _ e w (Lib.hid fun w1 hb1=>parseF _ xs _ e w1 (hY.grown (grown_below hb1 none) (by simp)) (by omega) (by rw [data_strB];exact hx) ⟨hx0,hx1⟩ rfl ?_ ?_)
 ·refine Lib.hid fun b g go c w2 h2=>?_
  have hok:TokOk ((xs++[(⟨5,[],0,(strB T).size⟩:Tk)]).map rtOf):=tok_ok hx hx1 rfl
  have hka:=kat_of (pos:=(strB T).size) hks
  have hend:((xs++[(⟨5,[],0,(strB T).size⟩:Tk)]).map rtOf)[0+ks.length]?=some (rtOf ⟨5,[],0,(strB T).size⟩):=by
   rw [Nat.zero_add,← hxl,List.getElem?_map,List.getElem?_append_right (Nat.le_refl _),Nat.sub_self];rfl
  refine readAllF b g go c _ _ e _ w2 h2 hend rfl hok.1 (Lib.hid fun w3 h3=>HR b g go c _ w3 h3 hok hka ⟨_,hend,?_,rfl,?_,?_⟩)
  ·refine ⟨⟨?_,?_,?_⟩,?_,?_,?_,?_,?_,?_,?_⟩ <;> simp [rtOf]
  ·simp [rtOf]
  ·simp [rtOf]
 ·refine Lib.hid fun k n s t A0 n0 c0 A1 n1 c1 A2 n2 c2 w4 hb4 h4=>?_
  have:=Check_any chkN (Lib.hid chkN_says) _ e k n s t A0 n0 c0 A1 n1 c1 A2 n2 c2 w4 h4 hhe ((hU.below hb1).below hb4)
  rwa [hc] at this
theorem back_bare (e:Ex)(w:World)(hY:Syms w)(hU:Uses w)(hv:evn e)(hc:(msd chkN e).2.2=0)(hl:(textE e).length≤30000) :
  Calls Tryz.prog 8 #[.string (strB (textE e))] w (ParseF False w e):=by
 obtain ⟨hw,_,hd⟩:=msd_iff.1 hc
 have hlv:=lv_0 e
 have e0:atKE 0 e=exK e:=atKE_in hlv
 obtain ⟨k,r,ek,_⟩:=(beg_all e hw hv).1
 refine text_read e _ (exK e) w hY hU hc hl (by rw [ek];simp) (lexS_ex hw hv hl) fun b g go c ts w1 hp hok hk hf=>?_
 have:=(rd_all e hw hv).x False b g go c ts 0 0 w1 hp hok (by rw [e0];exact hk) (by rw [e0];exact hf) (by omega) (.inl (by omega))
 rwa [e0] at this
theorem back_par (e:Ex)(w:World)(hY:Syms w)(hU:Uses w)(hv:evn e)(hc:(msd chkN e).2.2=0)(hl:(parT e).length≤30000) :
  Calls Tryz.prog 8 #[.string (strB (parT e))] w (ParseF (198 < hE e) w e):=by
 obtain ⟨hw,_,hd⟩:=msd_iff.1 hc
 refine text_read e _ _ w hY hU hc hl (by simp) (lexS_par hw hv hl) fun b g go c ts w1 hp hok hk hf=>?_
 exact par_top (rd_all e hw hv).x (lv_0 e) (beg_all e hw hv).1 b g go c ts 0 0 w1 hp hok hk hf (by omega) (by omega)
theorem msd_exA2:msd chkN exA=(7,4,0):=by kernel_rfl
theorem evn_exA:evn exA:=by
 have h:(nodesE 1 exA).all (fun q=>q.2.ops.length == q.2.bs.length)=true:=by kernel_rfl
 intro q hq
 simpa using List.all_eq_true.1 h q hq
theorem text_exA:textE exA=[49,32,43,32,50,32,42,32,120,32,60,32,121]:=by kernel_rfl
theorem parsedA2 (w:World)(hY:Syms w)(hU:Uses w):Calls Tryz.prog 8 #[.string ⟨#[49,32,43,32,50,32,42,32,120,32,60,32,121]⟩] w (ParseTo w exA):=by
 have:=back_bare exA w hY hU evn_exA (by rw [msd_exA2]) (by rw [text_exA];decide)
 rw [text_exA] at this
 refine this.mono ?_
 rintro e w' (h | ⟨hf,_⟩)
 ·exact h
 ·exact hf.elim
theorem exprB2 (b g go c:Nat)(w:World)(h:PS w b g go c tsB 3 1):Calls Tryz.prog 20 #[.pointer (some ⟨b,0,none⟩)] w (ExprTo w b g go c tsB 4 1 exA1):=by
 have hw:wfE exA1:=by
  have h:(nodesE 1 exA1).all (fun q=>chkN q.2 == 0)=true:=by kernel_rfl
  intro q hq
  simpa using List.all_eq_true.1 h q hq
 have hv:evn exA1:=by
  have h:(nodesE 1 exA1).all (fun q=>q.2.ops.length == q.2.bs.length)=true:=by kernel_rfl
  intro q hq
  simpa using List.all_eq_true.1 h q hq
 have hk:atKE 0 exA1=[(3,[],1)]:=by kernel_rfl
 have h1:hE exA1=1:=by kernel_rfl
 refine ((rd_all exA1 hw hv).x False b g go c tsB 3 1 w h tsB_ok ?_ ?_ (by omega) (.inl (by omega))).mono ?_
 ·rw [hk]
  intro j k hj
  match j,hj with
  | 0,hj =>
   simp only [List.getElem?_cons_zero,Option.some.injEq] at hj
   subst hj
   exact ⟨⟨3,[],1,8⟩,rfl,rfl,rfl,rfl⟩
  | j+1,hj=>simp at hj
 ·rw [hk]
  exact ⟨⟨5,[],0,9⟩,rfl,by decide,by decide,by decide,by decide⟩
 ·rintro e w' (h | ⟨hf,_⟩)
  ·rwa [hk] at h
  ·exact hf.elim
theorem exprFailB2 (b g go c:Nat)(w:World)(h:PS w b g go c tsB 0 0):Calls Tryz.prog 20 #[.pointer (some ⟨b,0,none⟩)] w (FailTo w b g go c tsB 4) :=
 expr_any_fail b g go c tsB 0 0 4 w h (by omega) (Lib.hid fun x w1 h1 h2=>expr1_let_fail x b g go c tsB 0 1 4 ⟨1,[108,101,116],0,0⟩ w1 h1 h2 rfl rfl (Lib.hid fun q w2 h3 h4 h5 =>
  open_fail q b g go c tsB 0 1 4 ⟨0,[120],0,4⟩ ⟨#[61]⟩ ⟨#[105,110]⟩ w2 h3 h4 h5 rfl rfl (by decide) (Lib.hid fun w3 h6 h7 =>
   behind_fail q b g go c tsB 2 1 4 exA1 ⟨4,[61],0,6⟩ ⟨5,[],0,9⟩ ⟨#[61]⟩ ⟨#[105,110]⟩ w3 h6 h7 h5 rfl rfl rfl (by decide) (by decide) (Lib.hid fun w4 h8=>exprB2 b g go c w4 h8))))
theorem parseB2 (w:World)(hY:Syms w):Calls Tryz.prog 8 #[.string ⟨#[108,101,116,32,120,32,61,32,49]⟩] w (ParseFail w 9) :=
 parseExpr_fail _ 9 w (Lib.hid fun w1 hb=>parse_fail _ xsB tsB 9 w1 (hY.grown (grown_below hb none) (by simp)) (by decide) lexB (by decide) rfl (Lib.hid fun b g go c w2 h2=>readAll_fail b g go c tsB 4 ⟨5,[],0,9⟩ w2 h2 rfl (Lib.hid fun w3 h3=>exprFailB2 b g go c w3 h3)))
theorem showA:showS exA=([49,32,43,32,50,32,42,32,120,32,60,32,121],0):=by kernel_rfl
theorem hEA:hE exA≤900000:=by decide +kernel
set_option maxRecDepth 100000 in
set_option maxHeartbeats 4000000 in
theorem shows_any (w:World)(hE:EnvS w):Calls Tryz.prog 5 #[] w fun e w'=>e=.returned (.bool true)∧Below w.heap.size w w':=by
 have HP:=Lib.hid (fun w (hE:EnvS w)=>parsedA2 w hE.1 hE.2.1)
 have HF:=Lib.hid (fun w (hE:EnvS w)=>parseB2 w hE.1)
 have HEn:=Lib.hid hE
 clear hE
 go_enter Tryz.func5,Tryz.ntmps5
 go_wp2_with fail
 refine (HP.out _ HEn.out).mono ?_
 rintro e w1 ⟨k,n,s,t,A0,n0,c0,A1,n1,c1,A2,n2,c2,rfl,hr,hb⟩
 have hs:=hr.sOf.2.2.1
 have hse:s=⟨#[60]⟩:=hs
 subst hse
 have HR1:=Lib.hid hr
 have HB1:=Lib.hid hb
 obtain ⟨W2,hW2⟩:∃ W2,w1.alloc (.cells #[.int .i64 k,.int .i64 n,.string ⟨#[60]⟩,.string t,.slice A0 n0 c0,.slice A1 n1 c1,.slice A2 n2 c2] 27)=W2:=⟨_,rfl⟩
 have HB2:Hid (Below w.heap.size w W2):=Lib.hid (by rw [← hW2];exact HB1.out.alloc HB1.out.size _)
 have HE2:Hid (EB W2 w1.heap.size (.int .i64 k) (.int .i64 n) (.string ⟨#[60]⟩) (.string t) (.slice A0 n0 c0) (.slice A1 n1 c1) (.slice A2 n2 c2)):=Lib.hid (by rw [← hW2];exact EB.new w1 _ _ _ _ _ _ _)
 have hs2:Same (fun x=>w.heap.size≤x) w1 W2:=by rw [← hW2];exact Same.of_grown (World.grownBy_alloc w1 _ none) (fun _ _=>by simp)
 have HR2:=Lib.hid (HR1.out.keep hs2)
 have HS:=Lib.hid (Show_any _ exA k n ⟨#[60]⟩ t A0 n0 c0 A1 n1 c1 A2 n2 c2 W2 HR2.out hEA (HEn.out.below HB2.out).2.1 (HEn.out.below HB2.out).2.2)
 rw [showA] at HS
 obtain ⟨S,hS⟩:∃ S,S=strB [49,32,43,32,50,32,42,32,120,32,60,32,121]:=⟨_,rfl⟩
 have hcmp:(S.toList == [49,32,43,32,50,32,42,32,120,32,60,32,121])=true:=by rw [hS,ByteArray.toList_eq,data_strB];decide
 rw [show (strB (([49,32,43,32,50,32,42,32,120,32,60,32,121]:List UInt8),(0:Int)).1)=S from hS.symm] at HS
 clear hS
 have g0:=HE2.out.c0
 have g1:=HE2.out.c1
 have g2:=HE2.out.c2
 have g3:=HE2.out.c3
 have g4:=HE2.out.c4
 have g5:=HE2.out.c5
 have g6:=HE2.out.c6
 clear hr hb hs hs2
 go_wp2_with fail
 clear hW2
 refine HS.out.mono ?_
 rintro e w3 ⟨rfl,hb⟩
 have HB3:=Lib.hid (HB2.out.trans (hb.mono HB2.out.size))
 have HE3:=Lib.hid (HE2.out.kept (grown_below hb none) (by simp))
 have HZ:=Lib.hid (Size_any chkN (Lib.hid chkN_says) _ exA k n ⟨#[60]⟩ t A0 n0 c0 A1 n1 c1 A2 n2 c2 w3 (HR2.out.keep (Same.of_below hb)) hEA (HEn.out.below HB3.out).2.1)
 rw [msd_exA2] at HZ
 clear hb g0 g1 g2 g3 g4 g5 g6 HS
 have g0:=HE3.out.c0
 have g1:=HE3.out.c1
 have g2:=HE3.out.c2
 have g3:=HE3.out.c3
 have g4:=HE3.out.c4
 have g5:=HE3.out.c5
 have g6:=HE3.out.c6
 go_wp2_with fail
 refine HZ.out.mono ?_
 rintro e w4 ⟨rfl,hb⟩
 have HB4:=Lib.hid (HB3.out.trans (hb.mono HB3.out.size))
 have HE4:=Lib.hid (HE3.out.kept (grown_below hb none) (by simp))
 clear hb g0 g1 g2 g3 g4 g5 g6 HZ
 go_wp2_with fail
 refine (HF.out _ (HEn.out.below HB4.out)).mono ?_
 rintro e w5 ⟨rfl,hb⟩
 have HB5:=Lib.hid (HB4.out.trans (hb.mono HB4.out.size))
 have HE5:=Lib.hid (HE4.out.kept (grown_below hb none) (by simp))
 have hz5:=HE5.out.lt
 have g2:=HE5.out.c2
 clear hb
 go_wp2_with fail
 go_ret
 exact ⟨rfl,HB5.out.alloc HB5.out.size _⟩
def Qt (w w':World):Prop:=∃ q,w'=w.drewN q
theorem Qt.refl (w:World):Qt w w:=⟨0,rfl⟩
theorem Qt.drew {w w':World}(h:Qt w w'):Qt w w'.drew:=by
 obtain ⟨q,rfl⟩:=h
 exact ⟨q+1,by simp [World.drewN,World.drew,Nat.add_assoc]⟩
theorem Qt.cell {w w':World}(h:Qt w w')(a:Addr):w'.cell? a=w.cell? a:=by
 obtain ⟨q,rfl⟩:=h;rfl
theorem Qt.below {w w':World}(h:Qt w w'):Below w.heap.size w w':=by
 obtain ⟨q,rfl⟩:=h
 exact ⟨rfl,rfl,rfl,Nat.le_refl _,fun _ _=>rfl⟩
set_option maxRecDepth 100000 in
set_option maxHeartbeats 2000000 in
theorem sameNames_any (P Q:Nat→Prop)(A B:Option Addr)(c d:Nat)(L M:List Txt)(w:World)(hL:NamesAt P w A L)(hM:NamesAt Q w B M)(hl:L.length≤maxLen∧M.length≤maxLen) :
  Calls Tryz.prog 21 #[.slice A L.length c,.slice B M.length d] w fun e w'=>e=.returned (.bool (decide (L=M)))∧Qt w w':=by
 obtain ⟨n,hn⟩:∃ n,n=L.length:=⟨_,rfl⟩
 obtain ⟨m,hm⟩:∃ n,n=M.length:=⟨_,rfl⟩
 have hl1:(n:Int)≤9223372036854775807:=by have:=hl.1;unfold maxLen at this;omega
 have hl2:(m:Int)≤9223372036854775807:=by have:=hl.2;unfold maxLen at this;omega
 have HL:=Lib.hid hL
 have HM:=Lib.hid hM
 have HN:=Lib.hid hn
 have HNm:=Lib.hid hm
 rw [← hn,← hm]
 obtain ⟨r,hr⟩:∃ r,r=decide (L=M):=⟨_,rfl⟩
 rw [← hr]
 clear hL hM hn hm hl
 by_cases hnm:n=m
 ·subst hnm
  have h1:((n:Int) != (n:Int))=false:=by simp
  have HR:=Lib.hid hr
  clear hr
  go_enter Tryz.func21,Tryz.ntmps21
  go_wp2_with fail
  go_loopw [5] (fun i wr=>∃ k:Nat,k≤n∧i=.int .i64 (k:Int)∧Hid (Qt w wr)∧Hid (L.take k=M.take k)) (fun i _=>n - (intOf i).toNat)
  case atStart=>exact ⟨0,Nat.zero_le _,rfl,Lib.hid (Qt.refl _),Lib.hid rfl⟩
  case round =>
   obtain ⟨k,hk,rfl,hB,hE⟩:=hrel
   by_cases hkn:k < n
   ·have hk1:k < L.length:=by rw [← HN.out];exact hkn
    have hk2:k < M.length:=by rw [← HNm.out];exact hkn
    obtain ⟨b,off,rfl,_,hlt,hc⟩:=HL.out (List.ne_nil_of_length_pos (by omega))
    obtain ⟨b2,off2,rfl,_,hlt2,hc2⟩:=HM.out (List.ne_nil_of_length_pos (by omega))
    have d1:=(hB.out.cell ⟨b,_,none⟩).trans (hc k L[k] (List.getElem?_eq_getElem hk1))
    have d2:=(hB.out.cell ⟨b2,_,none⟩).trans (hc2 k M[k] (List.getElem?_eq_getElem hk2))
    have i0:(0:Int)≤(k:Int):=by omega
    have i1:(k:Int) < (n:Int):=by omega
    by_cases he:L[k]=M[k]
    ·have HE:Hid (L.take (k+1)=M.take (k+1)):=Lib.hid (by rw [take_succ_of hk1,take_succ_of hk2,hE.out,he])
     rw [← he] at d2
     obtain ⟨x,hx⟩:∃ x,x=strB L[k]:=⟨_,rfl⟩
     rw [← hx] at d1 d2
     clear hc hc2 he hx hlt hlt2
     go_wp2_with fail
     go_region_held3 (fun w'=>w'.cell? ⟨b,off+k,none⟩=some (.string x)∧w'.cell? ⟨b2,off2+k,none⟩=some (.string x)∧Qt w w')
      ((exact ⟨d1,d2,hB.out.drew⟩))
      (fail)
     rename_i hh
     have HB2:=Lib.hid hh.2.2
     clear hh d1 d2
     go_wp2_with fail
     go_roundw
     case rel=>exact ⟨k+1,by omega,by go_num,HB2,HE⟩
     case measure=>simp [intOf];omega
    ·have HRf:Hid (r=false):=Lib.hid (by
      rw [HR.out]
      refine decide_eq_false (fun h=>he ?_)
      subst h;rfl)
     have hne:((strB L[k]).toList == (strB M[k]).toList)=false:=by
      rw [ByteArray.toList_eq,ByteArray.toList_eq,data_strB,data_strB];exact beq_eq_false_iff_ne.2 he
     obtain ⟨x,hx⟩:∃ x,x=strB L[k]:=⟨_,rfl⟩
     obtain ⟨y,hy⟩:∃ x,x=strB M[k]:=⟨_,rfl⟩
     rw [← hx] at d1 hne
     rw [← hy] at d2 hne
     clear hc hc2 he hx hy hlt hlt2
     go_wp2_with fail
     go_region_held3 (fun w'=>w'.cell? ⟨b,off+k,none⟩=some (.string x)∧w'.cell? ⟨b2,off2+k,none⟩=some (.string y)∧Qt w w')
      ((exact ⟨d1,d2,hB.out.drew⟩))
      (fail)
     rename_i hh
     have HB2:=Lib.hid hh.2.2
     clear hh d1 d2
     go_wp2_with fail
     go_ret
     exact ⟨by rw [HRf.out];rfl,HB2.out⟩
   ·obtain rfl:k=n:=by omega
    have HRt:Hid (r=true):=Lib.hid (by
     rw [HR.out]
     refine decide_eq_true ?_
     have h:=hE.out
     rw [List.take_of_length_le (by rw [← HN.out];exact Nat.le_refl _),List.take_of_length_le (by rw [← HNm.out];exact Nat.le_refl _)] at h
     exact h)
    go_wp2_with fail
    go_ret
    exact ⟨by rw [HRt.out];rfl,hB.out⟩
 ·have HR:Hid (r=false):=Lib.hid (by rw [hr];exact decide_eq_false (fun h=>hnm (by rw [HN.out,HNm.out,h])))
  have h1:((n:Int) != (m:Int))=true:=by simp;omega
  have h2:((n:Int) == (m:Int))=false:=by simp;omega
  clear hr hnm
  go_enter Tryz.func21,Tryz.ntmps21
  go_wp2_with fail
  go_ret
  exact ⟨by rw [HR.out];rfl,Qt.refl _⟩
def hdE (a b:Ex):Bool:=decide (a.k=b.k) && (decide (a.n=b.n) && (decide (a.s=b.s) && (decide (a.t=b.t) && decide (a.ns=b.ns))))
mutual
def sameE:Ex→Ex→Bool
 | .mk k n s t ns l ops bs,.mk k' n' s' t' ns' l' ops' bs'=>hdE (.mk k n s t ns l ops bs) (.mk k' n' s' t' ns' l' ops' bs') && (sameL l l' && sameA ops bs ops' bs')
def sameL:List Ex→List Ex→Bool
 | [],[]=>true
 | x :: r,y :: q=>sameE x y && sameL r q
 | _,_=>false
def sameA:List (Txt × List Txt)→List Ex→List (Txt × List Txt)→List Ex→Bool
 | _,[],_,[]=>true
 | o :: ro,x :: r,p :: rp,y :: q=>(decide (o=p) && sameE x y) && sameA ro r rp q
 | _,_,_,_=>false
end
theorem sameE_eq (a b:Ex):sameE a b=(hdE a b && (sameL a.l b.l && sameA a.ops a.bs b.ops b.bs)):=by
 cases a;cases b;rw [sameE];rfl
theorem sameL_len:∀ {l m:List Ex},sameL l m=true→l.length=m.length
 | [],[],_=>rfl
 | [],_ :: _,h=>by simp [sameL] at h
 | _ :: _,[],h=>by simp [sameL] at h
 | x :: r,y :: q,h=>by
  rw [sameL,Bool.and_eq_true] at h
  rw [List.length_cons,List.length_cons,sameL_len h.2]
theorem sameA_len:∀ {o p:List (Txt × List Txt)} {l m:List Ex},sameA o l p m=true→l.length=m.length
 | _,_,[],[],_=>rfl
 | o,p,[],_ :: _,h=>by cases o <;> cases p <;> simp [sameA] at h
 | o,p,_ :: _,[],h=>by cases o <;> cases p <;> simp [sameA] at h
 | [],p,_ :: _,_ :: _,h=>by cases p <;> simp [sameA] at h
 | _ :: _,[],_ :: _,_ :: _,h=>by simp [sameA] at h
 | o :: ro,p :: rp,x :: r,y :: q,h=>by
  rw [sameA,Bool.and_eq_true] at h
  rw [List.length_cons,List.length_cons,sameA_len h.2]
theorem sameL_snoc:∀ {l m:List Ex} (x y:Ex),l.length=m.length→sameL (l++[x]) (m++[y])=(sameL l m && sameE x y)
 | [],[],x,y,_=>by simp [sameL]
 | [],_ :: _,_,_,h=>by simp at h
 | _ :: _,[],_,_,h=>by simp at h
 | a :: r,b :: q,x,y,h=>by
  rw [List.cons_append,List.cons_append,sameL,sameL,sameL_snoc x y (by simpa using h),Bool.and_assoc]
theorem sameA_snoc:∀ {o p:List (Txt × List Txt)} {l m:List Ex} (u v:Txt × List Txt) (x y:Ex),l.length=m.length→o.length=l.length→p.length=m.length→sameA (o++[u]) (l++[x]) (p++[v]) (m++[y])=(sameA o l p m && (decide (u=v) && sameE x y))
 | [],[],[],[],u,v,x,y,_,_,_=>by simp [sameA]
 | a :: ro,c :: rp,b :: r,d :: q,u,v,x,y,h1,h2,h3=>by
  rw [List.cons_append,List.cons_append,List.cons_append,List.cons_append,sameA,sameA,sameA_snoc u v x y (by simpa using h1) (by simpa using h2) (by simpa using h3)]
  simp only [Bool.and_assoc]
 | _ :: _,_,[],_,_,_,_,_,_,h,_=>by simp at h
 | [],_,_ :: _,_,_,_,_,_,_,h,_=>by simp at h
 | _,_ :: _,_,[],_,_,_,_,_,_,h=>by simp at h
 | _,[],_,_ :: _,_,_,_,_,_,_,h=>by simp at h
 | _,_,[],_ :: _,_,_,_,_,h,_,_=>by simp at h
 | _,_,_ :: _,[],_,_,_,_,h,_,_=>by simp at h
theorem sameL_part:∀ {l m:List Ex} (k:Nat) (x y:Ex),l[k]?=some x→m[k]?=some y→sameE x y=false→sameL l m=false
 | [],_,k,_,_,h,_,_=>by simp at h
 | _ :: _,[],k,_,_,_,h,_=>by simp at h
 | a :: r,b :: q,0,x,y,h1,h2,h=>by
  simp at h1 h2;subst h1;subst h2
  rw [sameL,h];rfl
 | a :: r,b :: q,k+1,x,y,h1,h2,h=>by
  rw [sameL,sameL_part k x y (by simpa using h1) (by simpa using h2) h,Bool.and_false]
theorem sameA_part:∀ {o p:List (Txt × List Txt)} {l m:List Ex} (k:Nat) (u v:Txt × List Txt) (x y:Ex),o[k]?=some u→p[k]?=some v→l[k]?=some x→m[k]?=some y→(decide (u=v) && sameE x y)=false→sameA o l p m=false
 | [],_,_,_,k,_,_,_,_,h,_,_,_,_=>by simp at h
 | _ :: _,[],_,_,k,_,_,_,_,_,h,_,_,_=>by simp at h
 | _ :: _,_ :: _,[],_,k,_,_,_,_,_,_,h,_,_=>by simp at h
 | _ :: _,_ :: _,_ :: _,[],k,_,_,_,_,_,_,_,h,_=>by simp at h
 | a :: ro,c :: rp,b :: r,d :: q,0,u,v,x,y,h1,h2,h3,h4,h=>by
  simp at h1 h2 h3 h4;subst h1;subst h2;subst h3;subst h4
  rw [sameA,h];rfl
 | a :: ro,c :: rp,b :: r,d :: q,k+1,u,v,x,y,h1,h2,h3,h4,h=>by
  rw [sameA,sameA_part k u v x y (by simpa using h1) (by simpa using h2) (by simpa using h3) (by simpa using h4) h,Bool.and_false]
theorem sameE_self:∀ e:Ex,evn e→sameE e e=true:=by
 refine Ex.ind fun e ih hv=>?_
 cases e with
 | mk k n s t ns l ops bs =>
  obtain ⟨h1,h2,h3⟩:=hv.parts
  have hL:∀ (L:List Ex),(∀ x∈L,sameE x x=true)→sameL L L=true:=by
   intro L
   induction L with
   | nil=>intro _;rfl
   | cons x r ihr=>intro h;rw [sameL,h x (by simp),ihr (fun y hy=>h y (by simp [hy]))];rfl
  have hA:∀ (O:List (Txt × List Txt)) (L:List Ex),O.length=L.length→(∀ x∈L,sameE x x=true)→sameA O L O L=true:=by
   intro O
   induction O with
   | nil=>intro L hl _;cases L with
    | nil=>rfl
    | cons x r=>simp at hl
   | cons o q ihr=>intro L hl h;cases L with
    | nil=>simp at hl
    | cons x r=>rw [sameA,h x (by simp),ihr r (by simpa using hl) (fun y hy=>h y (by simp [hy]))];simp
  rw [sameE,hL l (fun x hx=>ih x (by simp [Ex.parts,Ex.l,Ex.bs,hx]) (h2 x hx)),hA ops bs h1 (fun x hx=>ih x (by simp [Ex.parts,Ex.l,Ex.bs,hx]) (h3 x hx))]
  simp [hdE]
end Go.Proofs.YtpjabnemkmdobaaGreatDoor
