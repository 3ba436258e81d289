/- GramSound, part 10. -/
import Derived.Test.YtnffbmipllhjdaaGreatDoorXZ9
import Derived.Test.YtnffbmipllhjdaaGreatDoorXZ4
import Derived.OrdersHeld
import Derived.Orders
import Derived.Test.YtnffbmipllhjdaaGreatDoorXZ5
set_option linter.all false
set_option maxHeartbeats 8000000
namespace Go.Proofs.YtnffbmipllhjdaaGreatDoor
namespace G
open Go.RowKit Go.Shelf
attribute [local go_sem] Oper.semAt_some
theorem ZhR (b:Bool)(tv:Value)(o:Int)(t:Tx)(lv:Value)(w:World):(Instr.buildSlice 142 1 #[(0,pV b tv o t lv)]).run Tryz.prog w=.ok (.slice (some ⟨w.heap.size,0,none⟩) 1 1) (w.alloc (.cells (pA b tv o t lv) 85)):=by kernel_rfl
section
variable {S:Nat->Prop}{w0 w w':World}{L:List Ent}{ops:Array Oper}{rest:List Oper}{a:Act}{Q:Exit->Act->World->Prop}{dst:Option Nat}{x y:Operand}{ty:TypeId}{pos:String}{after:Array Edge}
theorem at_bs142 {ps:Array (Nat × Operand)}{m:Nat}(h:wpList Tryz.prog ops Q (⟨dst,.buildSlice 142 m ps,ty,pos,after,none⟩::rest) a w):wpList Tryz.prog ops Q (⟨dst,.buildSlice 142 m ps,ty,pos,after,none⟩::rest) a w:=h
theorem wl_bs142 (H:St S w0 w L){b:Bool}{tv:Value}{o:Int}{t:Tx}{lv:Value}(hx:a.eval x=pV b tv o t lv)(k:∀ g w',St S w0 w' ((true,g,85,pA b tv o t lv)::L)->w0.heap.size<=g->w.heap.size<=g->wpList Tryz.prog ops Q rest (a.put dst (.slice (some ⟨g,0,none⟩) 1 1)) w'):wpList Tryz.prog ops Q (⟨dst,.buildSlice 142 1 #[(0,x)],ty,pos,after,none⟩::rest) a w:=by
 refine wpList_plain rfl fun K hK=>?_
 unfold Oper.wp execOp
 simp only [List.map_toArray,List.map_cons,List.map_nil,hx,Sem.run_bind,ZhR,Result.andThen_ok,Sem.run_pure]
 exact hK _ _ (k _ _ (H.alloc 85 _) H.but.size (Nat.le_refl _))
end
theorem PaL.rep {w:World}{P:Nat->Prop}{b:Bool}{tv:Value}{o:Int}{t:Tx}{lv:Value}{p:Pt}(h:PaV w P (pV b tv o t lv) p):∀ n,PaL w P (List.replicate n p) (rpL (pA b tv o t lv).toList n)
 | 0=>rfl
 | n+1=>⟨b,tv,o,t,lv,_,rfl,h,PaL.rep h n⟩
theorem Ze7 {p:Pt}{mn mx:Int}(h:¬ (mn=mx/\(Zaw (List.replicate mn.toNat p)).2=mn.toNat)):ZaV p mn mx=if mn=0 then .ask allQ else .ask p.asked:=by unfold ZaV;rw [if_neg h]
set_option maxRecDepth 100000 in
theorem ZcK (p:Pt)(hB:PtB p)(P:Nat->Prop)(x:Value)(mn:Nat)(mx:Int)(hmn:mn<=64)(w:World)(hx:PaV w P x p)(hPw:∀ b,P b->b<w.heap.size) :
  Calls Tryz.prog 79 #[x,.int .i64 (mn:Int),.int .i64 mx] w fun e w'=>∃ z,e=.returned z/\PaV w' (fun b=>P b\/w.heap.size<=b) z (ZaV p (mn:Int) mx)/\Below w.heap.size w w':=by
 obtain⟨b,tv,o,t,lv,rfl,hto,hlo⟩:=hx.form
 have H:=St.start Nope w
 have AK:=Zaa (fun (w':World) (hb:Below w.heap.size w w')=>ZiU p hB P _ w' (hx.kept (fun b _ hl=>hb.block b hl)) (fun b h=>by have:=hPw b h;have:=hb.size;omega))
 have hxh:=Zaa hx
 replace hB:=Zaa hB
 clear hx
 have c5:(pA b tv o t lv).toList.length=5:=rfl
 have c1:∀ v ∈ (pA b tv o t lv).toList,v.oneCell'=true:=fun u hu=>Array.all_eq_true'.1 (Zj0 (b:=b) (o:=o) (t:=t) hto hlo) u (by simpa using hu)
 replace c5:=Zaa c5
 replace c1:=Zaa c1
 -- how it goes on where no texts are told
 have Tail:Hid (∀ (w4:World) (g1 g2:Nat) (L:List Ent),True):=fun _ _ _ _=>trivial
 by_cases hmm:(mn:Int)=mx
 ·subst hmm
  have hLO:=Zaa (fun (v:Value) (zs:List Value) (w':World) (ho:w'.ownsRow 0 85 5 v mn zs) (hk:PaL w' P (List.replicate mn p) zs) (hP:∀ b,P b->b<w'.heap.size)=>Ze2 (List.replicate mn p) (fun q hq=>by rw [List.eq_of_mem_replicate hq];exact hB.out) P v zs w' (by rw [List.length_replicate];exact ho) hk hP (by rw [List.length_replicate];omega))
  go_enter Tryz.func79,Tryz.ntmps79
  go_wp2_with (first|((with_reducible refine Zar 85 ?_);refine ZdN (b:=b) (tv:=tv) (o:=o) (t:=t) (l:=lv) H rfl ?_;clear H;intro g1 w1 H q1 q2)|((with_reducible refine Zae 85 ?_);refine Za0 H ?_;clear H;intro g2 w2 H q3 q4)|((with_reducible refine Zac 85 ?_);refine Zau 85 rfl (ZbQ (H.get 1 rfl)) ?_)|((with_reducible refine at_bs142 ?_);refine wl_bs142 (b:=b) (tv:=tv) (o:=o) (t:=t) (lv:=lv) H rfl ?_;clear H;intro g3 w3 H q5 q6;have RP:=Zaa (Zi2 w3 g3 _ mn (by omega) c5.out c1.out (H.get 0 rfl));have hb3:=H.below;have hg2:=H.lti 1 rfl;have hg1:=H.lti 2 rfl)|(go_at_call 133;refine RP.out.mono ?_))
  rintro e w4 ⟨g4,rfl,q7,hrow,B4⟩
  have b4:=hb3.trans (B4.mono hb3.size)
  have ho4:w4.ownsRow 0 85 5 (.slice (some ⟨g4,0,none⟩) mn mn) mn (rpL (pA b tv o t lv).toList mn):=by
   have hl:=ZbF c5.out mn
   refine⟨by simp [hl],.inr ⟨g4,mn,_,rfl,Nat.zero_le _,hrow,Nat.le_refl _,by unfold maxLen;omega,by simp [hl],?_⟩⟩
   simp only [List.toList_toArray]
   exact List.take_of_length_le (by omega)
  have LO:=Zaa (hLO.out _ _ w4 ho4 (PaL.rep (hxh.out.kept (fun b _ hl=>b4.block b hl)) mn) (fun b h=>by have:=hPw b h;have:=b4.size;omega))
  have H4:=H.call B4 (Nat.le_refl _)
  clear H RP hrow ho4 B4
  go_wp2_with (go_at_call 130;refine LO.out.mono ?_)
  rintro e w5 ⟨tv5,rfl,o5,B5⟩
  have H5:=H4.call B5 (Nat.le_refl _)
  have b5:=b4.trans (B5.mono b4.size)
  have s45:=B5.size
  have h2g:=Zaa (H5.get 1 rfl)
  have h1g:=Zaa (H5.get 2 rfl)
  have hg5:g2<w4.heap.size:=by have:=H4.lti 1 rfl;omega
  clear H4 LO
  generalize hln:(Zaw (List.replicate mn p)).2=ln at *
  replace hln:=Zaa hln
  by_cases hlm:ln=mn
  ·subst hlm
   obtain⟨ta,tc,rfl⟩:=ZbE o5
   have hfin:Hid (ZaV p (ln:Int) (ln:Int)=.told (Zaw (List.replicate ln p)).1):=by
    show _=_
    unfold ZaV
    rw [Int.toNat_natCast,if_pos ⟨rfl,hln.out⟩]
   have o5h:=Zaa o5
   clear o5 B5 b4
   go_wp2_with (first|((with_reducible refine Zbo ?_);refine ZaI (Zb3 _ ta _ tc rfl rfl _) ?_)|((with_reducible refine Zab 85 ?_);refine ZaQ 85 (v:=pV true (.slice ta (Zaw (List.replicate ln p)).1.length tc) 0 [] nilS) rfl rfl (Zbs h2g.out rfl rfl) ?_))
   refine bodyPost_ret (Zaf rfl _ _ _ _ rfl (ZbQ (setRow_heap _ _ _ _ 85 (0,0) h2g.out))) rfl ?_
   have hpv:PaV w5 (fun b=>w4.heap.size<=b) (pV true (.slice ta (Zaw (List.replicate ln p)).1.length tc) 0 [] nilS) (.told (Zaw (List.replicate ln p)).1):=⟨_,rfl,Zbk o5h.out (Nat.zero_le _),fun b hb=>(ZaN o5h.out hb).1⟩
   obtain⟨r1,r2⟩:=ZdO h2g.out b5 q3 hpv (fun h=>by omega)
   refine⟨_,rfl,?_,r2⟩
   rw [hfin.out]
   exact r1.mono (fun b _ hb=>.inr (by have:=hb3.size;omega))
  ·have i1:¬ ((ln:Int)=(mn:Int)):=by omega
   have hfin0:=Zaa (Ze7 (p:=p) (mn:=(mn:Int)) (mx:=(mn:Int)) (by rw [Int.toNat_natCast,hln.out];exact fun h=>hlm h.2))
   clear o5 B5 b4
   by_cases h0:mn=0
   ·subst h0
    exact absurd (by have:=hln.out;simpa [Zaw,Zbr] using this.symm) hlm
   ·have i2:¬ ((mn:Int)=0):=by omega
    have hfin:Hid (ZaV p (mn:Int) (mn:Int)=.ask p.asked):=by show _=_;rw [hfin0.out,if_neg i2]
    go_wp2_with (first|((with_reducible refine Zac 85 ?_);refine Zau 85 rfl (ZbQ h1g.out) ?_)|(go_at_call 36;refine (AK.out _ b5).mono ?_))
    rintro e w6 ⟨z,rfl,hq,B6⟩
    obtain⟨xa,xm,xc,rfl⟩:=hq.slice
    have H6:=H5.call B6 (Nat.le_refl _)
    have b6:=b5.trans (B6.mono b5.size)
    have h2g6:=Zaa (H6.get 1 rfl)
    have hqh:=Zaa hq
    clear hq B6 H6
    go_wp2_with (first|((with_reducible refine Zbo ?_);refine ZaI (ZbA _ p.asked.op p.asked.tx xa xm xc rfl _) ?_)|((with_reducible refine Zab 85 ?_);refine ZaQ 85 (v:=pV false nilS p.asked.op p.asked.tx (.slice xa xm xc)) rfl rfl (Zbs h2g6.out rfl rfl) ?_))
    refine bodyPost_ret (Zaf rfl _ _ _ _ rfl (ZbQ (setRow_heap _ _ _ _ 85 (0,0) h2g6.out))) rfl ?_
    have hpv:PaV w6 (fun b=>P b\/w5.heap.size<=b) (pV false nilS p.asked.op p.asked.tx (.slice xa xm xc)) (.ask p.asked):=⟨_,rfl,hqh.out⟩
    obtain⟨r1,r2⟩:=ZdO h2g6.out b6 q3 hpv (fun h=>by
     rcases h with h|h
     ·have:=hPw _ h;omega
     ·omega)
    refine⟨_,rfl,?_,r2⟩
    rw [hfin.out]
    exact r1.mono (fun b _ hb=>hb.imp id (fun h=>by have:=b5.size;omega))
 ·have hfin0:=Zaa (Ze7 (p:=p) (mn:=(mn:Int)) (mx:=mx) (fun h=>hmm h.1))
  go_enter Tryz.func79,Tryz.ntmps79
  by_cases h0:mn=0
  ·subst h0
   have hfin:Hid (ZaV p ((0:Nat):Int) mx=.ask allQ):=by show _=_;rw [hfin0.out];rfl
   go_wp2_with (first|((with_reducible refine Zar 85 ?_);refine ZdN (b:=b) (tv:=tv) (o:=o) (t:=t) (l:=lv) H rfl ?_;clear H;intro g1 w1 H q1 q2)|((with_reducible refine Zae 85 ?_);refine Za0 H ?_;clear H;intro g2 w2 H q3 q4;have b5:=H.below;have h2g:=Zaa (H.get 0 rfl);have hg2:=H.lti 0 rfl)|((with_reducible refine Zd5 ?_);refine ZaI (Zb2 _ 0 rfl _) ?_)|((with_reducible refine Zbo ?_);refine ZaI (ZbA _ 0 [] none 0 0 rfl _) ?_)|((with_reducible refine Zab 85 ?_);refine ZaQ 85 (v:=pV false nilS 0 [] nilS) rfl rfl (Zbs h2g.out rfl rfl) ?_))
   refine bodyPost_ret (Zaf rfl _ _ _ _ rfl (ZbQ (setRow_heap _ _ _ _ 85 (0,0) h2g.out))) rfl ?_
   have hpv:PaV w2 (fun b=>w2.heap.size<=b) (pV false nilS 0 [] nilS) (.ask allQ):=⟨nilS,rfl,nilS,[],rfl,⟨rfl,.inl ⟨rfl,rfl⟩⟩,fun b hb=>(by cases hb),rfl⟩
   obtain⟨r1,r2⟩:=ZdO h2g.out b5 q3 hpv (fun h=>by omega)
   refine⟨_,rfl,?_,r2⟩
   rw [hfin.out]
   exact r1.mono (fun b _ hb=>.inr (by have:=b5.size;omega))
  ·have i2:¬ ((mn:Int)=0):=by omega
   have hfin:Hid (ZaV p (mn:Int) mx=.ask p.asked):=by show _=_;rw [hfin0.out,if_neg i2]
   go_wp2_with (first|((with_reducible refine Zar 85 ?_);refine ZdN (b:=b) (tv:=tv) (o:=o) (t:=t) (l:=lv) H rfl ?_;clear H;intro g1 w1 H q1 q2)|((with_reducible refine Zae 85 ?_);refine Za0 H ?_;clear H;intro g2 w2 H q3 q4;have b5:=H.below;have hg2:=H.lti 0 rfl)|((with_reducible refine Zac 85 ?_);refine Zau 85 rfl (ZbQ (H.get 1 rfl)) ?_)|(go_at_call 36;refine (AK.out _ b5).mono ?_))
   rintro e w6 ⟨z,rfl,hq,B6⟩
   obtain⟨xa,xm,xc,rfl⟩:=hq.slice
   have H6:=H.call B6 (Nat.le_refl _)
   have b6:=b5.trans (B6.mono b5.size)
   have h2g6:=Zaa (H6.get 0 rfl)
   have hqh:=Zaa hq
   clear hq B6 H6
   go_wp2_with (first|((with_reducible refine Zbo ?_);refine ZaI (ZbA _ p.asked.op p.asked.tx xa xm xc rfl _) ?_)|((with_reducible refine Zab 85 ?_);refine ZaQ 85 (v:=pV false nilS p.asked.op p.asked.tx (.slice xa xm xc)) rfl rfl (Zbs h2g6.out rfl rfl) ?_))
   refine bodyPost_ret (Zaf rfl _ _ _ _ rfl (ZbQ (setRow_heap _ _ _ _ 85 (0,0) h2g6.out))) rfl ?_
   have hpv:PaV w6 (fun b=>P b\/w2.heap.size<=b) (pV false nilS p.asked.op p.asked.tx (.slice xa xm xc)) (.ask p.asked):=⟨_,rfl,hqh.out⟩
   obtain⟨r1,r2⟩:=ZdO h2g6.out b6 q3 hpv (fun h=>by
    rcases h with h|h
    ·have:=hPw _ h;omega
    ·omega)
   refine⟨_,rfl,?_,r2⟩
   rw [hfin.out]
   exact r1.mono (fun b _ hb=>hb.imp id (fun h=>by have:=b5.size;omega))
end G
namespace G
open Go.RowKit Go.Shelf
theorem Zcm {w w':World}{base n:Nat}{v:Value}{xs:List Value}(h:w.ownsRow base 85 5 v n xs)(hb:∀ k,v.ownBlock=some k->w'.heap[k]?=w.heap[k]?):w'.ownsRow base 85 5 v n xs:=by
 refine⟨h.1,?_⟩
 rcases h.2 with h1|⟨g,cap,cur,rfl,h2,h3,h4⟩
 ·exact .inl h1
 ·exact .inr ⟨g,cap,cur,rfl,h2,(hb g rfl).trans h3,h4⟩
theorem ZcE {w:World}{base n:Nat}{v:Value}{xs:List Value}(h:w.ownsRow base 85 5 v n xs){k:Nat}(hk:v.ownBlock=some k):base<=k/\k<w.heap.size:=by
 rcases h.2 with⟨rfl,_⟩|⟨g,cap,cur,rfl,h2,h3,_⟩
 ·cases hk
 ·cases hk;exact⟨h2,(Array.getElem?_eq_some_iff.1 h3).1⟩
theorem ZfL {w:World}{base base' n:Nat}{v:Value}{xs:List Value}(h:w.ownsRow base 85 5 v n xs)(hb:base'<=base):w.ownsRow base' 85 5 v n xs:=by
 refine⟨h.1,?_⟩
 rcases h.2 with h1|⟨g,cap,cur,rfl,h2,h3⟩
 ·exact .inl h1
 ·exact .inr ⟨g,cap,cur,rfl,by omega,h3⟩
theorem PaL.snoc {w:World}{P:Nat->Prop}{b:Bool}{tv:Value}{o:Int}{t:Tx}{lv:Value}{p:Pt}(h:PaV w P (pV b tv o t lv) p):∀ {l:List Pt}{xs:List Value},PaL w P l xs->PaL w P (l++[p]) (xs++(pA b tv o t lv).toList)
 | [],xs,hx=>by cases hx;exact⟨b,tv,o,t,lv,[],by simp,h,rfl⟩
 | q::r,xs,⟨b1,tv1,o1,t1,lv1,ys,e,h1,h2⟩=>⟨b1,tv1,o1,t1,lv1,ys++(pA b tv o t lv).toList,by rw [e,List.append_assoc],h1,PaL.snoc h h2⟩
def RpP (w:World)(base:Nat)(v:Value)(l:List Pt):Prop:=∃ xs,w.ownsRow base 85 5 v l.length xs/\PaL w (fun b=>base<=b/\v.ownBlock≠some b) l xs
theorem RpP.start (w:World)(base:Nat):RpP w base (.slice none 0 0) []:=⟨[],⟨rfl,.inl ⟨rfl,rfl⟩⟩,rfl⟩
theorem RpP.kept {w w':World}{base:Nat}{v:Value}{l:List Pt}(h:RpP w base v l)(hb:∀ b,base<=b->b<w.heap.size->w'.heap[b]?=w.heap[b]?):RpP w' base v l:=by
 obtain⟨xs,o,k⟩:=h
 exact⟨xs,Zcm o (fun b hk=>hb b (ZcE o hk).1 (ZcE o hk).2),k.kept (fun b hP hl=>hb b hP.1 hl)⟩
theorem RpP.top {w:World}{base:Nat}{v:Value}{l:List Pt}(h:RpP w base v l){k:Nat}(hk:v.ownBlock=some k):k<w.heap.size:=by
 obtain⟨xs,o,_⟩:=h
 exact (ZcE o hk).2
section
variable {S:Nat->Prop}{w0 w w':World}{L:List Ent}{ops:Array Oper}{rest:List Oper}{a:Act}{Q:Exit->Act->World->Prop}{x y:Operand}{ty ty2:TypeId}{pos pos2:String}{after after2:Array Edge}
theorem at_snocA {d1 d2:Nat}{s x:Operand}(h:wpList Tryz.prog ops Q (⟨some d1,.buildSlice 142 1 #[(0,x)],ty,pos,after,none⟩::⟨some d2,.call { callee:=.builtin .append,args:=#[s,.tmp d1],argTypes:=#[142,142] },ty2,pos2,after2,none⟩::rest) a w) :
  wpList Tryz.prog ops Q (⟨some d1,.buildSlice 142 1 #[(0,x)],ty,pos,after,none⟩::⟨some d2,.call { callee:=.builtin .append,args:=#[s,.tmp d1],argTypes:=#[142,142] },ty2,pos2,after2,none⟩::rest) a w:=h
theorem wl_snocA {d1 d2:Nat}{s:Operand}(H:St S w0 w L){base m:Nat}{v z:Value}{l:List Pt}{p:Pt}(R:RpP w base v l)(T:PaV w (fun b=>m<=b) z p)(hs:∀ u,(a.put (some d1) u).eval s=v)(ht:∀ u,(a.put (some d1) u).eval (.tmp d1)=u)(hx:a.eval x=z)
  (hm:∀ k,v.ownBlock=some k->k<m) (hbm:base<=m) (hmw:m<=w.heap.size) (hf:l.length<=1000000) (hL:∀ e ∈ L,v.ownBlock≠some e.2.1) (h0:w0.heap.size<=base)
  (k:∀ u v2 w2,St S w0 w2 L->RpP w2 base v2 (l++[p])->w.heap.size<=w2.heap.size->(∀ k,v2.ownBlock=some k->v.ownBlock=some k\/w.heap.size<=k)->wpList Tryz.prog ops Q rest ((a.put (some d1) u).put (some d2) v2) w2) :
  wpList Tryz.prog ops Q (⟨some d1,.buildSlice 142 1 #[(0,x)],ty,pos,after,none⟩::⟨some d2,.call { callee:=.builtin .append,args:=#[s,.tmp d1],argTypes:=#[142,142] },ty2,pos2,after2,none⟩::rest) a w:=by
 obtain⟨i0,hi,hz0,hz1,hz2⟩:=Znn
 obtain⟨b,tv,o,t,lv,rfl,hto,hlo⟩:=T.form
 obtain⟨xs,ro,rk⟩:=R
 refine wpList_plain rfl fun K hK=>?_
 unfold Oper.wp execOp
 simp only [List.map_toArray,List.map_cons,List.map_nil,hx,Sem.run_bind,ZhR,Result.andThen_ok,Sem.run_pure]
 refine hK _ _ ?_
 have hA1:=Zj0 (b:=b) (o:=o) (t:=t) hto hlo
 generalize hA:pA b tv o t lv=A at *
 have hAl:A.toList.length=5:=by rw [<- hA];rfl
 have hold:∀ b,b<w.heap.size->(w.alloc (.cells A 85)).heap[b]?=w.heap[b]?:=fun b hb=>Below.heap_alloc _ _ _ hb
 refine wpList_append_lies (P:=Tryz.prog) (w:=w.alloc (.cells A 85)) rfl s (.tmp d1) 142 rfl base 85 i0 (pV false nilS 0 [] nilS) 5 80 Tryz.underlying142 hi hz0 hz1 hz2 rfl (by decide) v l.length xs (hs _) (Zcm ro (fun b hb=>hold b (ZcE ro hb).2)) ⟨w.heap.size,0,none⟩ 1 1 A.toList (ht _) (by omega) ?_ (fun u hu=>Array.all_eq_true'.1 hA1 u (by simpa using hu)) (by omega) (by unfold maxLen;omega) (by omega) (by simp;omega) (w.heap.size+1) (by simp) ?_
 ·intro j v' hj
  rw [Zav,Nat.zero_add,cell_of_row _ _ _ _ _ _ (heap_alloc_new w _)]
  simpa using hj
 ·intro g cap w2 hown hg hat hlt
  have H1:=(H.alloc 85 A).tail
  have hsz:w.heap.size<=w2.heap.size:=by have:=hg.size;simp at this;omega
  refine k _ _ w2 (H1.grown hg (fun j hj=>⟨fun e he=>?_,fun hl=>?_⟩)) ⟨xs++A.toList,by rw [List.length_append];exact hown,?_⟩ hsz (fun k hk=>?_)
  ·intro e2
   exact hL e he (by rw [hj,e2])
  ·have:=ZcE ro hj
   omega
  ·have keep:∀ b,b<w.heap.size->v.ownBlock≠some b->w2.heap[b]?=w.heap[b]?:=fun b hb hn=>by
    rw [hg.block b (by simp;omega) (fun e=>hn e.symm),hold b hb]
   have ne:∀ b,b<w.heap.size->v.ownBlock≠some b->(Value.slice (some ⟨g,0,none⟩) (l.length+1) cap).ownBlock≠some b:=fun b hb hn e=>by
    have e2:g=b:=by simpa [Value.ownBlock] using e
    rcases hat with h|h
    ·exact hn (by rw [h,e2])
    ·omega
   have far:∀ b,m<=b->v.ownBlock≠some b:=fun b hb e=>by
    have:=hm b e
    omega
   have step:∀ {ff:List Pt} {ys:List Value},PaL w (fun b=>base<=b/\v.ownBlock≠some b) ff ys->PaL w2 (fun b=>base<=b/\(Value.slice (some ⟨g,0,none⟩) (l.length+1) cap).ownBlock≠some b) ff ys:=fun hk =>
    ((hk.mono (P':=fun b=>(base<=b/\(Value.slice (some ⟨g,0,none⟩) (l.length+1) cap).ownBlock≠some b)/\v.ownBlock≠some b) (fun b hb hp=>⟨⟨hp.1,ne b hb hp.2⟩,hp.2⟩)).kept (w':=w2) (fun b hp hl=>keep b hl hp.2)).mono (fun b _ hp=>hp.1)
   have T2:=((T.mono (P':=fun b=>(base<=b/\(Value.slice (some ⟨g,0,none⟩) (l.length+1) cap).ownBlock≠some b)/\v.ownBlock≠some b) (fun b hb hp=>⟨⟨by omega,ne b hb (far b hp)⟩,far b hp⟩)).kept (w':=w2) (fun b hp hl=>keep b hl hp.2)).mono (P':=fun b=>base<=b/\(Value.slice (some ⟨g,0,none⟩) (l.length+1) cap).ownBlock≠some b) (fun b _ hp=>hp.1)
   rw [<- hA]
   exact PaL.snoc T2 (step rk)
  ·have e2:g=k:=by simpa [Value.ownBlock] using hk
   rcases hat with h|h
   ·exact .inl (by rw [h,e2])
   ·exact .inr (by omega)
end
end G
namespace G
open Go.RowKit Go.Shelf
attribute [local go_sem] Oper.semAt_some
set_option maxRecDepth 100000 in
theorem Zi3 (l:List Pt)(hB:∀ p ∈ l,PtB p)(P:Nat->Prop)(g off vc:Nat)(w:World)(hch:∀ k p,l[k]?=some p->∃ b tv o t lv,tv.oneCell'=true/\lv.oneCell'=true/\PaV w P (pV b tv o t lv) p/\∀ w',Below w.heap.size w w'->(loadVar 85 ⟨g,off+k * 5,none⟩).run Tryz.prog w'=.ok (pV b tv o t lv) w')(hP:∀ b,P b->b<w.heap.size)(hlen:l.length<=1000000) :
  Calls Tryz.prog 130 #[.slice (some ⟨g,off,none⟩) l.length vc] w fun e w'=>∃ tv,e=.returned (.tuple #[tv,.int .i64 ((Zaw l).2:Int)])/\w'.ownsRow w.heap.size 9 1 tv (Zaw l).1.length ((Zaw l).1.map encStr)/\Below w.heap.size w w':=by
 have child:=Zaa hch
 replace hB:=Zaa hB
 replace hP:=Zaa hP
 clear hch
 go_enter Tryz.func130,Tryz.ntmps130
 go_wp2_with (first|((with_reducible refine Znd ?_);refine Zj1 rfl ?_;intro w1 B1 o1))
 have B1h:=Zaa B1
 have o1h:=Zaa o1
 clear B1 o1
 go_loopw [4,12] (fun tv iv wr=>∃ (k:Nat) (ts:List Tx),k<=l.length/\iv=.int .i64 (k:Int)/\Hid (Bd ts)/\Hid (wr.ownsRow w.heap.size 9 1 tv ts.length (ts.map encStr))/\Hid (Below w.heap.size w wr)/\Hid (Zaw l=((Zbr ts (l.drop k)).1,(Zbr ts (l.drop k)).2+k))) (fun _ iv _=>l.length - (intOf iv).toNat)
 case atStart=>exact⟨0,[[]],Nat.zero_le _,rfl,Zmh,o1h.out,B1h.out,rfl⟩
 case round =>
  obtain⟨k,ts,hk,rfl,hbd,ho,hb,hlg⟩:=hrel
  by_cases hlt:k<l.length
  ·have i3:(k:Int)<(l.length:Int):=by omega
   obtain⟨p,hp⟩:∃ p,l[k]?=some p:=⟨_,List.getElem?_eq_getElem hlt⟩
   obtain⟨b,tv,o,t,lv,hto,hlo,hpv,hld⟩:=child.out k p hp
   have hpB:=hB.out p (List.mem_of_getElem? hp)
   have hdr:=Zgv hp
   have hl1:=Zaa (hld wr hb.out)
   obtain⟨ta,tc,hta⟩:=ZbE ho.out
   have H:=St.start Nope wr
   replace hp:=Zaa hp
   clear hld
   cases p with
   | ask q =>
    obtain⟨lv',e,hq⟩:=hpv
    have hb0:b=false:=by
     have:=congrArg (fun v=>match v with|.agg a=>a[0]?|_=>none) e
     simpa [pV,pA] using this
    subst hb0
    have hfin:Hid (Zaw l=(ts,k)):=by show _=_;rw [hlg.out,hdr,ZhI];simp
    clear e hq hpB hdr
    go_wp2_with (first|((with_reducible refine Zac 85 ?_);refine Zau 85 rfl hl1.out ?_)|((with_reducible refine Zae 85 ?_);refine Za0 H ?_;clear H;intro g6 w6 H q1 q2)|((with_reducible refine Zab 85 ?_);refine ZbZ 0 (b':=false) (tv':=tv) (o':=o) (t':=t) (l':=lv) H rfl rfl rfl hto hlo ?_;clear H;intro w7 H)|((with_reducible refine Zac 4 ?_);refine Za3 0 0 H (v:=.bool false) rfl rfl rfl ?_))
    have hbH:=Zaa H.below
    have ho7:=Zaa (ZaA ho.out (fun k hk=>hbH.out.block k (ZaN ho.out hk).2))
    have hb7:=Zaa (hb.out.trans (hbH.out.mono hb.out.size))
    subst hta
    go_ret2
    refine⟨_,(by rw [hfin.out];rfl),?_,hb7.out⟩
    rw [hfin.out]
    exact ho7.out
   | told ps =>
    obtain⟨tv',e,hpo,hpp⟩:=hpv
    have hbt:b=true/\tv=tv':=by
     have h1:=congrArg (fun v=>match v with|.agg a=>a[0]?|_=>none) e
     have h2:=congrArg (fun v=>match v with|.agg a=>a[1]?|_=>none) e
     simp [pV,pA] at h1 h2
     exact⟨h1,h2⟩
    obtain⟨rfl,rfl⟩:=hbt
    obtain⟨pa,pc,hpa⟩:=ZbE hpo
    have hBp:=Zaa (hpB ps rfl)
    have hdrH:=Zaa hdr
    have hpoW:=Zaa (ZaA (w':=wr) hpo (fun k hk=>hb.out.block k (ZaN hpo hk).2))
    clear e hpp hpB hdr hpo
    subst hta hpa
    go_wp2_with (first|((with_reducible refine Zac 85 ?_);refine Zau 85 rfl hl1.out ?_)|((with_reducible refine Zae 85 ?_);refine Za0 H ?_;clear H;intro g6 w6 H q1 q2)|((with_reducible refine Zab 85 ?_);refine ZbZ 0 (b':=true) (tv':=.slice pa ps.length pc) (o':=o) (t':=t) (l':=lv) H rfl rfl rfl rfl hlo ?_;clear H;intro w7 H)|((with_reducible refine Zac 4 ?_);refine Za3 0 0 H (v:=.bool true) rfl rfl rfl ?_)|((with_reducible refine Zac 43 ?_);refine Zgt 0 1 H (v:=.slice pa ps.length pc) rfl rfl rfl ?_)|(go_at_call 183;refine (callsIn_wide.1 (ZhH 1 _ _ _ _ _ _ w7)).mono ?_))
    rintro e w9 ⟨rfl,e9⟩
    have hb7:=H.below
    have B9:Below w7.heap.size w7 w9:=by rw [e9];exact ((Below.refl _ w7).alloc (Nat.le_refl _) _).alloc (by simp) _
    have hBa:w9.heap[w7.heap.size]?=some (.cells #[.slice ta ts.length tc] 43 (0,0)):=by rw [e9];exact (Below.heap_alloc _ _ _ (by simp)).trans (heap_alloc_new w7 _)
    have hBb:w9.heap[w7.heap.size+1]?=some (.cells #[.slice pa ps.length pc] 43 (0,0)):=by
     rw [e9]
     have:=heap_alloc_new (w7.alloc (.cells #[.slice ta ts.length tc] 43)) (.cells #[.slice pa ps.length pc] 43)
     simpa using this
    have b9:Below wr.heap.size wr w9:=hb7.trans (B9.mono hb7.size)
    have ot:=ZaA (w':=w9) ho.out (fun k hk=>b9.block k (ZaN ho.out hk).2)
    have op:=ZaA (w':=w9) hpoW.out (fun k hk=>b9.block k (ZaN hpoW.out hk).2)
    have BJ:=Zaa (Zdl ts ps ta pa tc pc w7.heap.size (w7.heap.size+1) w9 (Zbk ot (Nat.zero_le _)) op hbd.out.1 hBp.out.1 hbd.out.2.1 hBp.out.2.1 hBa hBb)
    have otH:=Zaa ot
    have b09:=Zaa (hb.out.trans (b9.mono hb.out.size))
    clear e9 H hb7 B9 hBa hBb ot op b9
    go_wp2_with (go_at_call 182;refine BJ.out.mono ?_)
    intro e w10 hR
    obtain⟨v10,b10,rfl,B10,hcase⟩:=hR
    have b010:=Zaa (b09.out.trans (B10.mono b09.out.size))
    rcases hcase with⟨hn,rfl,rfl⟩|⟨m,hm,rfl,om⟩
    ·have hfin:Hid (Zaw l=(ts,k)):=by show _=_;rw [hlg.out,hdrH.out,Zd6 hn];simp
     have ot10:=Zaa (ZaA (w':=w10) otH.out (fun k hk=>B10.block k (ZaN otH.out hk).2))
     clear hn B10
     go_wp2
     go_ret2
     refine⟨_,(by rw [hfin.out];rfl),?_,b010.out⟩
     rw [hfin.out]
     exact ot10.out
    ·have hlg2:Hid (Zaw l=((Zbr m (l.drop (k+1))).1,(Zbr m (l.drop (k+1))).2+(k+1))):=by
      show _=_
      rw [hlg.out,hdrH.out,Zdc hm]
      simp only [Prod.mk.injEq,true_and]
      omega
     have hbdm:=Zaa (ZjE hm)
     have om2:=Zaa (Zbk om (base':=w.heap.size) (by have:=b09.out.size;omega))
     clear hm B10 om
     go_wp2
     go_roundw
     case rel=>exact⟨k+1,m,by omega,by simp,hbdm,om2,b010,hlg2⟩
     case measure=>simp [intOf];omega
  ·obtain rfl:k=l.length:=by omega
   have i4:¬ ((l.length:Int)<(l.length:Int)):=by omega
   have hfin:Hid (Zaw l=(ts,l.length)):=by show _=_;rw [hlg.out,List.drop_length];simp [Zbr]
   go_wp2
   go_ret2
   refine⟨_,(by rw [hfin.out];rfl),?_,hb.out⟩
   rw [hfin.out]
   exact ho.out
end G
namespace G
open Go.RowKit Go.Shelf
attribute [local go_sem] Oper.semAt_some
section
variable {S:Nat->Prop}{w0 w w':World}{L:List Ent}{ops:Array Oper}{o:Oper}{a:Act}{Q:Exit->Act->World->Prop}{K:Act->World->Prop}{E:Prop}{dst:Option Nat}{x y:Operand}{ty:TypeId}{pos:String}{after:Array Edge}{gd:Option (Nat × Bool)}
theorem ZdQ {v:Value}(hgd:Region.wanted o (yielded ops a.tmps)=true)(hr:(execOp a.eval o).run Tryz.prog w=.ok (.value v) w')(h:K (a.put o.dst v) w'):if Region.wanted o (yielded ops a.tmps)=true then Oper.wp Tryz.prog o a w K Q else E:=by
 rw [if_pos hgd]
 unfold Oper.wp
 rw [hr,Oper.upon_value]
 exact h
theorem Zno (ev:Operand->Value){u v r:Value}(hx:ev x=u)(hy:ev y=v)(hr:(Instr.sliceAt 142 u (some v) none none).run Tryz.prog w=.ok r w):(execOp ev ⟨dst,.slice 142 x (some y) none none,ty,pos,after,gd⟩).run Tryz.prog w=.ok (.value r) w:=by
 unfold execOp
 simp only [hx,hy,Option.map_some,Option.map_none,Sem.run_bind,hr,Result.andThen_ok,Sem.run_pure]
theorem Znp (ev:Operand->Value){ad:Addr}{v:Value}(hx:ev x=.pointer (some ad))(hl:(loadVar 30 ad).run Tryz.prog w=.ok v w):(execOp ev ⟨dst,.load 30 x,ty,pos,after,none⟩).run Tryz.prog w=.ok (.value v) w:=by
 unfold execOp
 simp only [hx,Instr.loadAt,Instr.sureAddr,Sem.run_bind,Sem.run_pure,Result.andThen_ok,hl]
theorem bs28q {ev:Operand->Value}{o:Int}{t:Tx}{v:Value}(hx:ev x=qV o t v)(w:World):(execOp ev ⟨dst,.buildSlice 28 1 #[(0,x)],ty,pos,after,none⟩).run Tryz.prog w=.ok (.value (.slice (some ⟨w.heap.size,0,none⟩) 1 1)) (w.alloc (.cells (qA o t v) 30)):=by
 unfold execOp
 simp only [List.map_toArray,List.map_cons,List.map_nil,hx,Sem.run_bind,ZdK,Result.andThen_ok,Sem.run_pure]
def qCells:Value->Array Value
 | .agg a=>a
 | _=>#[]
theorem bs28z' {P:Nat->Prop}{W:World}{ev:Operand->Value}{z:Value}{t:Qy}(T:QyV W P z t)(hx:ev x=z)(w:World):(execOp ev ⟨dst,.buildSlice 28 1 #[(0,x)],ty,pos,after,none⟩).run Tryz.prog w=.ok (.value (.slice (some ⟨w.heap.size,0,none⟩) 1 1)) (w.alloc (.cells (qCells z) 30)):=by
 obtain⟨v,zs,e,_⟩:=T
 subst e
 exact bs28q hx w
theorem ZfM {base m:Nat}{P:Nat->Prop}(H:St S w0 w L)(hPb:∀ b,P b->b<base){v z:Value}{f:Qf}{t:Qy}(R:RqP w base P v f)(T:QyV w (fun b=>P b\/m<=b) z t)(s x:Operand)(hgd:o.guard=none)(ho:o.op=.call { callee:=.builtin .append,args:=#[s,x],argTypes:=#[28,28] })(hs:a.eval s=v)(hx:a.eval x=.slice (some ⟨w.heap.size,0,none⟩) 1 1)
  (hm:∀ k,v.ownBlock=some k->k<m) (hbm:base<=m) (hmw:m<=w.heap.size) (hf:f.len<=1000000) (hL:∀ e ∈ L,e.2.1<base) (h0:w0.heap.size<=base)
  (k:∀ v2 w2,St S w0 w2 L->RqP w2 base P v2 (f.snoc t)->w.heap.size<=w2.heap.size->K (a.put o.dst v2) w2) :
  if Region.wanted o (yielded ops a.tmps)=true then Oper.wp Tryz.prog o a (w.alloc (.cells (qCells z) 30)) K Q else E:=by
 obtain⟨i0,hi,hz0,hz1,hz2⟩:=ZiS
 obtain⟨u,zs,rfl,ow,p,kd⟩:=T
 obtain⟨xs,ro,rk⟩:=R
 obtain⟨ua,uc,hu,_,_⟩:=Za8 ow
 have hu1:u.oneCell'=true:=by rw [hu];rfl
 show if _ then Oper.wp Tryz.prog _ a (w.alloc (.cells (qA t.op t.tx u) 30)) K Q else E
 generalize hA:qA t.op t.tx u=A at *
 have hAl:A.toList.length=3:=by rw [<- hA];rfl
 have hold:∀ b,b<w.heap.size->(w.alloc (.cells A 30)).heap[b]?=w.heap[b]?:=fun b hb=>Below.heap_alloc _ _ _ hb
 refine step_append_lies (P:=Tryz.prog) (w:=w.alloc (.cells A 30)) hgd s x 28 ho base 30 i0 (qV 0 [] (.slice none 0 0)) 3 48 Tryz.underlying28 hi hz0 hz1 hz2 rfl (by decide) v f.len xs hs (ZaC ro (fun b hb=>hold b (Zaz ro hb).2)) ⟨w.heap.size,0,none⟩ 1 1 A.toList hx (by omega) ?_ (by rw [<- hA];exact fun u hu=>Array.all_eq_true'.1 (ZeY hu1) u (by simpa using hu)) (by omega) (by unfold maxLen;omega) (by omega) (by simp;omega) (w.heap.size+1) (by simp) ?_
 ·intro j v' hj
  rw [Zav,Nat.zero_add,cell_of_row _ _ _ _ _ _ (heap_alloc_new w _)]
  simpa using hj
 ·intro g cap w2 hown hg hat hlt
  have H1:=(H.alloc 30 A).tail
  have hsz:w.heap.size<=w2.heap.size:=by have:=hg.size;simp at this;omega
  refine k _ w2 (H1.grown hg (fun j hj=>⟨fun e he=>?_,fun hl=>?_⟩)) ⟨xs++A.toList,by rw [Qf.len_snoc];exact hown,?_⟩ hsz
  ·have:=hL e he
   have:=Zaz ro hj
   omega
  ·have:=Zaz ro hj
   omega
  ·have keep:∀ b,b<w.heap.size->v.ownBlock≠some b->w2.heap[b]?=w.heap[b]?:=fun b hb hn=>by
    rw [hg.block b (by simp;omega) (fun e=>hn e.symm),hold b hb]
   have ne:∀ b,b<w.heap.size->v.ownBlock≠some b->(Value.slice (some ⟨g,0,none⟩) (f.len+1) cap).ownBlock≠some b:=fun b hb hn e=>by
    have e2:g=b:=by simpa [Value.ownBlock] using e
    rcases hat with h|h
    ·exact hn (by rw [h,e2])
    ·omega
   have far:∀ b,(P b\/m<=b)->v.ownBlock≠some b:=fun b hb e=>by
    have h1:=(Zaz ro e).1
    have h2:=hm b e
    rcases hb with h|h
    ·have:=hPb b h;omega
    ·omega
   have step:∀ {ff:Qf} {ys:List Value} {PP:Nat->Prop},Kq w PP ff ys->(∀ b,PP b->(P b\/base<=b)/\v.ownBlock≠some b)->Kq w2 (fun b=>(P b\/base<=b)/\(Value.slice (some ⟨g,0,none⟩) (f.len+1) cap).ownBlock≠some b) ff ys:=fun hk hP =>
    ((hk.mono (P':=fun b=>((P b\/base<=b)/\(Value.slice (some ⟨g,0,none⟩) (f.len+1) cap).ownBlock≠some b)/\v.ownBlock≠some b) (fun b hb hp=>⟨⟨(hP b hp).1,ne b hb (hP b hp).2⟩,(hP b hp).2⟩)).kept (w':=w2) (fun b hp hl=>keep b hl hp.2)).mono (fun b _ hp=>hp.1)
   have o2:=ZaC (w':=w2) ow (fun b hb=>keep b (Zaz ow hb).2 (far b (p b hb)))
   rw [<- hA]
   refine Kq.snoc o2 (fun b hb=>⟨(p b hb).imp id (fun h=>by omega),ne b (Zaz ow hb).2 (far b (p b hb))⟩) (step kd (fun b hb=>⟨hb.imp id (fun h=>by omega),far b hb⟩)) (step rk (fun b hb=>hb))
end
set_option maxRecDepth 100000 in
theorem reg77_8 (L:List Ent)(w0:World)(w:World)(base:Nat)(P:Nat->Prop)(hPb:∀ b,P b->b<base)(lv:Value)(f:Qf)(t:Qy)(g off m c:Nat)(H0:St Nope w0 w L)(R0:RqP w base P lv f)(hf:f.len<=1000000)(hL:∀ e ∈ L,e.2.1<base)(h0:w0.heap.size<=base)(hbw:base<=w.heap.size)(hm:1<=m)(sv:Value)(qv:Value)(T0:QyV w (fun b=>P b) (qV t.op t.tx qv) t)(hld:(loadVar 30 ⟨g,off+2,none⟩).run Tryz.prog w.drew=.ok (qV t.op t.tx qv) w.drew)(hsl:∀ W,(Instr.sliceAt 142 (.slice (some ⟨g,off,none⟩) m c) (some (.int .i64 1)) none none).run Tryz.prog W=.ok sv W)
  (u1 u2 u3 u4 u6 u7 u8 u9 u10 u11 u12 u13 u14 u15 u16 u17 u18 u19 u20 u21 u22 u23 u24 u25 u26 u27 u28 u29 u30 u31 u32 u33 u34 u35 u36 u37 u38 u39 u40 u41 u42 u43 u44 u45 u46 u47 u48:Value) (Q:Exit->Act->World->Prop)
  (h:∀ (X31 X32 X34 v2:Value) (w2:World),St Nope w0 w2 L->RqP w2 base P v2 (f.snoc t)->w.heap.size<=w2.heap.size->Q .normal { tmps:=(List.toArray ((sv::u1::u2::u3::u4::v2::u6::u7::u8::u9::u10::u11::u12::u13::u14::u15::u16::u17::u18::u19::u20::u21::u22::u23::u24::u25::u26::u27::u28::lv::.slice (some ⟨g,off,none⟩) m c::X31::X32::qV t.op t.tx qv::X34::v2::.slice (some ⟨g,off,none⟩) m c::sv::u38::u39::u40::u41::u42::u43::u44::u45::u46::u47::u48::[]):List Value)),defers:=[] } w2) :
  (Code.region 8 #[⟨some 29,.move (.tmp 5),28,"part.go:93",#[],none⟩,⟨some 30,.move (.tmp 0),142,"part.go:93",#[],none⟩,⟨some 31,.indexAddr 142 (.tmp 30) (.const (.int .i64 0)),0,"part.go:93",#[⟨1,.data⟩],none⟩,⟨some 32,.fieldAddr 85 (.tmp 31) 2,0,"part.go:93",#[⟨2,.data⟩],none⟩,⟨some 33,.load 30 (.tmp 32),30,"part.go:93",#[⟨3,.data⟩],none⟩,⟨some 34,.buildSlice 28 1 #[(0,.tmp 33)],28,"part.go:93",#[⟨4,.data⟩],none⟩,⟨some 35,.call { callee:=.builtin .append,args:=#[.tmp 29,.tmp 34],argTypes:=#[28,28] },28,"part.go:93",#[⟨0,.data⟩,⟨5,.data⟩],none⟩,⟨some 36,.move (.tmp 0),142,"part.go:93",#[],none⟩,⟨some 37,.slice 142 (.tmp 36) (some (.const (.int .i64 1))) none none,142,"part.go:93",#[⟨7,.data⟩],none⟩,⟨some 5,.assign (.tmp 35),28,"part.go:93",#[⟨6,.data⟩,⟨6,.chain⟩,⟨0,.phase⟩,⟨1,.phase⟩,⟨2,.phase⟩,⟨3,.phase⟩,⟨4,.phase⟩,⟨5,.phase⟩,⟨6,.phase⟩,⟨7,.textOnly .lateStores⟩,⟨8,.textOnly .lateStoresUnsure⟩],none⟩,⟨some 0,.assign (.tmp 37),142,"part.go:93",#[⟨8,.data⟩,⟨9,.chain⟩,⟨0,.phase⟩,⟨1,.phase⟩,⟨2,.phase⟩,⟨3,.phase⟩,⟨4,.phase⟩,⟨5,.phase⟩,⟨6,.phase⟩,⟨7,.phase⟩,⟨8,.phase⟩,⟨9,.phase⟩],none⟩] true).wp Tryz.prog Q { tmps:=(List.toArray ((.slice (some ⟨g,off,none⟩) m c::u1::u2::u3::u4::lv::u6::u7::u8::u9::u10::u11::u12::u13::u14::u15::u16::u17::u18::u19::u20::u21::u22::u23::u24::u25::u26::u27::u28::u29::u30::u31::u32::u33::u34::u35::u36::u37::u38::u39::u40::u41::u42::u43::u44::u45::u46::u47::u48::[]):List Value)),defers:=[] } w:=by
 have i1:(1:Int)<=(m:Int):=by omega
 have i3:0<m:=by omega
 have i2:(0:Int)<(m:Int):=by omega
 have H:=H0.drew
 have R:=R0.kept (w':=w.drew) (fun b _ _=>rfl)
 have ltv:∀ k,lv.ownBlock=some k->k<w.drew.heap.size:=fun k hk=>R0.top k hk
 replace hsl:=Zaa hsl
 replace hld:=Zaa hld
 clear H0 R0
 have T:QyV w.drew (fun b=>P b\/w.drew.heap.size<=b) (qV t.op t.tx qv) t:=QyV.mono (QyV.kept (w':=w.drew) T0 (fun b _ _=>rfl)) (fun b _ hb=>Or.inl hb)
 clear T0
 replace h:=Zaa h
 refine wp_region_noPanic ?_
 refine wp_region_any (by kernel_rfl) ?_
 change wpAny _ _ _ _ _ _ _ (World.drew w)
 refine wpAny_take (i:=0)  (v:=?_) rfl (by kernel_rfl) (by kernel_rfl) (by kernel_rfl) (fun _ _ _ h=>h) (Or.inl ⟨by rfl,?_⟩) ?_
 rotate_left
 ·intro w'
  go_simp
  try with_reducible rfl
 try simp only [Act.put,PuA]
 refine wpAny_take (i:=1)  (v:=?_) rfl (by kernel_rfl) (by kernel_rfl) (by kernel_rfl) (fun _ _ _ h=>h) (Or.inl ⟨by rfl,?_⟩) ?_
 rotate_left
 ·intro w'
  go_simp
  try with_reducible rfl
 try simp only [Act.put,PuA]
 refine wpAny_take (i:=2)  (v:=?_) rfl (by kernel_rfl) (by kernel_rfl) (by kernel_rfl) (fun _ _ _ h=>h) (Or.inl ⟨by rfl,?_⟩) ?_
 rotate_left
 ·intro w'
  go_simp
  try with_reducible rfl
 try simp only [Act.put,PuA]
 refine wpAny_take (i:=3)  (v:=?_) rfl (by kernel_rfl) (by kernel_rfl) (by kernel_rfl) (fun _ _ _ h=>h) (Or.inl ⟨by rfl,?_⟩) ?_
 rotate_left
 ·intro w'
  go_simp
  try with_reducible rfl
 try simp only [Act.put,PuA]
 refine wpAny_take (i:=7)  (v:=?_) rfl (by kernel_rfl) (by kernel_rfl) (by kernel_rfl) (fun _ _ _ h=>h) (Or.inl ⟨by rfl,?_⟩) ?_
 rotate_left
 ·intro w'
  go_simp
  try with_reducible rfl
 try simp only [Act.put,PuA]
 refine wpAny_take (i:=8)  (v:=sv) rfl (by kernel_rfl) (by kernel_rfl) (by kernel_rfl) (fun _ _ _ h=>h) (Or.inl ⟨by rfl,?_⟩) ?_
 ·intro w'
  exact Zno _ rfl rfl (hsl.out _)
 try simp only [Act.put,PuA]
 refine wpAny_ready (rs:=[4]) (by kernel_rfl) (by simp) ?_
 refine (AllReady.cons rfl (fun K4 hK4=>?_) AllReady.nil)
 refine ZdQ (by rfl) (Znp _ rfl hld.out) ?_
 refine hK4 _ _ ?_
 clear hK4 K4
 try simp only [Act.put,PuA]
 refine wpAny_ready (rs:=[5]) (by kernel_rfl) (by simp) ?_
 refine (AllReady.cons rfl (fun K5 hK5=>?_) AllReady.nil)
 refine ZdQ (by rfl) (bs28q rfl _) ?_
 refine hK5 _ _ ?_
 clear hK5 K5
 try simp only [Act.put,PuA]
 refine wpAny_ready (rs:=[6]) (by kernel_rfl) (by simp) ?_
 refine (AllReady.cons rfl (fun K6 hK6=>?_) AllReady.nil)
 refine ZfM H hPb R T (.tmp 29) (.tmp 34) rfl rfl rfl rfl ltv hbw (Nat.le_refl _) hf hL h0 (fun v2 w2 H2 R2 z2=>?_)
 refine hK6 _ _ ?_
 clear H R T
 clear hK6 K6
 try simp only [Act.put,PuA]
 refine wpAny_take (i:=9)  (v:=?_) rfl (by kernel_rfl) (by kernel_rfl) (by kernel_rfl) (fun _ _ _ h=>h) (Or.inl ⟨by rfl,?_⟩) ?_
 rotate_left
 ·intro w'
  go_simp
  try with_reducible rfl
 try simp only [Act.put,PuA]
 refine wpAny_take (i:=10)  (v:=?_) rfl (by kernel_rfl) (by kernel_rfl) (by kernel_rfl) (fun _ _ _ h=>h) (Or.inl ⟨by rfl,?_⟩) ?_
 rotate_left
 ·intro w'
  go_simp
  try with_reducible rfl
 try simp only [Act.put,PuA]
 refine wpAny_done (by kernel_rfl) ?_ _
 refine NoPanic.normal ?_
 exact h.out _ _ _ _ _ H2 R2 z2
set_option maxRecDepth 100000 in
theorem reg77_9 (L:List Ent)(w0:World)(w:World)(base:Nat)(P:Nat->Prop)(hPb:∀ b,P b->b<base)(lv:Value)(f:Qf)(t:Qy)(g off m c:Nat)(H0:St Nope w0 w L)(R0:RqP w base P lv f)(hf:f.len<=1000000)(hL:∀ e ∈ L,e.2.1<base)(h0:w0.heap.size<=base)(hbw:base<=w.heap.size)(hm:1<=m)(sv:Value)(tv:Value)(n:Nat)(hn:n<=m)(hQO:Calls Tryz.prog 81 #[tv] w.drew fun e w'=>∃ z,e=.returned z/\QyV w' (fun b=>w.drew.heap.size<=b) z t/\Below w.drew.heap.size w.drew w')(hsl:∀ W,(Instr.sliceAt 142 (.slice (some ⟨g,off,none⟩) m c) (some (.int .i64 (n:Int))) none none).run Tryz.prog W=.ok sv W)
  (u1 u2 u3 u4 u8 u9 u10 u11 u12 u13 u14 u15 u16 u17 u18 u19 u20 u21 u22 u23 u24 u25 u26 u27 u28 u29 u30 u31 u32 u33 u34 u35 u36 u37 u38 u39 u40 u41 u42 u43 u44 u45 u46 u47 u48:Value) (Q:Exit->Act->World->Prop)
  (h:∀ (X40 X41 v2:Value) (w2:World),St Nope w0 w2 L->RqP w2 base P v2 (f.snoc t)->w.heap.size<=w2.heap.size->Q .normal { tmps:=(List.toArray ((sv::u1::u2::u3::u4::v2::tv::.int .i64 (n:Int)::u8::u9::u10::u11::u12::u13::u14::u15::u16::u17::u18::u19::u20::u21::u22::u23::u24::u25::u26::u27::u28::u29::u30::u31::u32::u33::u34::u35::u36::u37::lv::tv::X40::X41::v2::.slice (some ⟨g,off,none⟩) m c::.int .i64 (n:Int)::sv::u46::u47::u48::[]):List Value)),defers:=[] } w2) :
  (Code.region 9 #[⟨some 38,.move (.tmp 5),28,"part.go:96",#[],none⟩,⟨some 39,.move (.tmp 6),43,"part.go:96",#[],none⟩,⟨some 40,.call { callee:=.value (.func 81),args:=#[.tmp 39],argTypes:=#[43] },30,"part.go:96",#[⟨1,.data⟩],none⟩,⟨some 41,.buildSlice 28 1 #[(0,.tmp 40)],28,"part.go:96",#[⟨2,.data⟩],none⟩,⟨some 42,.call { callee:=.builtin .append,args:=#[.tmp 38,.tmp 41],argTypes:=#[28,28] },28,"part.go:96",#[⟨0,.data⟩,⟨3,.data⟩,⟨2,.chain⟩],none⟩,⟨some 43,.move (.tmp 0),142,"part.go:96",#[],none⟩,⟨some 44,.move (.tmp 7),3,"part.go:96",#[],none⟩,⟨some 45,.slice 142 (.tmp 43) (some (.tmp 44)) none none,142,"part.go:96",#[⟨5,.data⟩,⟨6,.data⟩],none⟩,⟨some 5,.assign (.tmp 42),28,"part.go:96",#[⟨4,.data⟩,⟨4,.chain⟩,⟨0,.phase⟩,⟨1,.phase⟩,⟨2,.phase⟩,⟨3,.phase⟩,⟨4,.phase⟩,⟨5,.textOnly .lateStores⟩,⟨6,.textOnly .lateStores⟩,⟨7,.textOnly .lateStoresUnsure⟩],none⟩,⟨some 0,.assign (.tmp 45),142,"part.go:96",#[⟨7,.data⟩,⟨8,.chain⟩,⟨0,.phase⟩,⟨1,.phase⟩,⟨2,.phase⟩,⟨3,.phase⟩,⟨4,.phase⟩,⟨5,.phase⟩,⟨6,.phase⟩,⟨7,.phase⟩,⟨8,.phase⟩],none⟩] true).wp Tryz.prog Q { tmps:=(List.toArray ((.slice (some ⟨g,off,none⟩) m c::u1::u2::u3::u4::lv::tv::.int .i64 (n:Int)::u8::u9::u10::u11::u12::u13::u14::u15::u16::u17::u18::u19::u20::u21::u22::u23::u24::u25::u26::u27::u28::u29::u30::u31::u32::u33::u34::u35::u36::u37::u38::u39::u40::u41::u42::u43::u44::u45::u46::u47::u48::[]):List Value)),defers:=[] } w:=by
 have i1:(1:Int)<=(m:Int):=by omega
 have i3:0<m:=by omega
 have i2:(0:Int)<(m:Int):=by omega
 have H:=H0.drew
 have R:=R0.kept (w':=w.drew) (fun b _ _=>rfl)
 have ltv:∀ k,lv.ownBlock=some k->k<w.drew.heap.size:=fun k hk=>R0.top k hk
 replace hsl:=Zaa hsl
 replace hQO:=Zaa hQO
 clear H0 R0
 replace h:=Zaa h
 refine wp_region_noPanic ?_
 refine wp_region_any (by kernel_rfl) ?_
 change wpAny _ _ _ _ _ _ _ (World.drew w)
 refine wpAny_take (i:=0)  (v:=?_) rfl (by kernel_rfl) (by kernel_rfl) (by kernel_rfl) (fun _ _ _ h=>h) (Or.inl ⟨by rfl,?_⟩) ?_
 rotate_left
 ·intro w'
  go_simp
  try with_reducible rfl
 try simp only [Act.put,PuA]
 refine wpAny_take (i:=1)  (v:=?_) rfl (by kernel_rfl) (by kernel_rfl) (by kernel_rfl) (fun _ _ _ h=>h) (Or.inl ⟨by rfl,?_⟩) ?_
 rotate_left
 ·intro w'
  go_simp
  try with_reducible rfl
 try simp only [Act.put,PuA]
 refine wpAny_take (i:=5)  (v:=?_) rfl (by kernel_rfl) (by kernel_rfl) (by kernel_rfl) (fun _ _ _ h=>h) (Or.inl ⟨by rfl,?_⟩) ?_
 rotate_left
 ·intro w'
  go_simp
  try with_reducible rfl
 try simp only [Act.put,PuA]
 refine wpAny_take (i:=6)  (v:=?_) rfl (by kernel_rfl) (by kernel_rfl) (by kernel_rfl) (fun _ _ _ h=>h) (Or.inl ⟨by rfl,?_⟩) ?_
 rotate_left
 ·intro w'
  go_simp
  try with_reducible rfl
 try simp only [Act.put,PuA]
 refine wpAny_take (i:=7)  (v:=sv) rfl (by kernel_rfl) (by kernel_rfl) (by kernel_rfl) (fun _ _ _ h=>h) (Or.inl ⟨by rfl,?_⟩) ?_
 ·intro w'
  exact Zno _ rfl rfl (hsl.out _)
 try simp only [Act.put,PuA]
 refine wpAny_ready (rs:=[2]) (by kernel_rfl) (by simp) ?_
 refine (AllReady.cons rfl (fun K2 hK2=>?_) AllReady.nil)
 go_simp
 refine hQO.out.mono ?_
 rintro e w3 ⟨z,rfl,T3,B3⟩
 refine hK2 _ _ ?_
 replace H:=H.call B3 (Nat.le_refl _)
 replace R:=R.kept (w':=w3) (fun b _ hl=>B3.block b hl)
 have s3:=B3.size
 clear hK2 K2
 try simp only [Act.put,PuA]
 refine wpAny_ready (rs:=[3]) (by kernel_rfl) (by simp) ?_
 refine (AllReady.cons rfl (fun K3 hK3=>?_) AllReady.nil)
 refine ZdQ (by rfl) (bs28z' T3 rfl _) ?_
 refine hK3 _ _ ?_
 clear hK3 K3
 try simp only [Act.put,PuA]
 refine wpAny_ready (rs:=[4]) (by kernel_rfl) (by simp) ?_
 refine (AllReady.cons rfl (fun K4 hK4=>?_) AllReady.nil)
 refine ZfM H hPb R (T3.mono (fun b _ hb=>.inr hb)) (.tmp 38) (.tmp 41) rfl rfl rfl rfl ltv (Nat.le_trans hbw (Nat.le_refl _)) s3 hf hL h0 (fun v2 w2 H2 R2 z2=>?_)
 refine hK4 _ _ ?_
 clear H R T3
 clear hK4 K4
 try simp only [Act.put,PuA]
 refine wpAny_take (i:=8)  (v:=?_) rfl (by kernel_rfl) (by kernel_rfl) (by kernel_rfl) (fun _ _ _ h=>h) (Or.inl ⟨by rfl,?_⟩) ?_
 rotate_left
 ·intro w'
  go_simp
  try with_reducible rfl
 try simp only [Act.put,PuA]
 refine wpAny_take (i:=9)  (v:=?_) rfl (by kernel_rfl) (by kernel_rfl) (by kernel_rfl) (fun _ _ _ h=>h) (Or.inl ⟨by rfl,?_⟩) ?_
 rotate_left
 ·intro w'
  go_simp
  try with_reducible rfl
 try simp only [Act.put,PuA]
 refine wpAny_done (by kernel_rfl) ?_ _
 refine NoPanic.normal ?_
 exact h.out _ _ _ _ H2 R2 (Nat.le_trans s3 z2)
end G
namespace G
open Go.RowKit Go.Shelf
attribute [local go_sem] Oper.semAt_some
theorem ZhS {p:Pt}{r:List Pt}(hB:PtB p)(h:(Zaw (p::r)).2=0):∃ q,p=.ask q:=by
 cases p with
 | ask q=>exact⟨q,rfl⟩
 | told ts =>
  exfalso
  obtain⟨m,hm⟩:=Option.ne_none_iff_exists'.1 (hB.no ts rfl)
  unfold Zaw at h
  rw [Zdc hm] at h
  simp at h
theorem Zj4 (g off m c i:Nat)(hi:i<=m)(hc:m<=c)(hmx:m<=1000000):∃ sa c1,(∀ W,(Instr.sliceAt 142 (.slice (some ⟨g,off,none⟩) m c) (some (.int .i64 (i:Int))) none none).run Tryz.prog W=.ok (.slice (some sa) (m - i) c1) W)/\(i<m->sa=⟨g,off+i * 5,none⟩)/\m - i<=c1:=by
 refine⟨if c=i then ⟨g,off,none⟩ else ⟨g,off+i * 5,none⟩,c - i,fun W=>?_,fun h=>if_neg (by omega),by omega⟩
 have hu:=Tryz.underlying142
 have hs:∀ w,(sizeOf 85).run Tryz.prog w=.ok 5 w:=fun w=>by kernel_rfl
 have h1:(i:Int)<=(m:Int):=by omega
 have h2:(m:Int)<=(c:Int):=by omega
 have h3:(i:Int)<=(c:Int):=by omega
 simp [go_sem,hu,h1,h2,h3,hs]
 split <;> rfl
theorem ZkY {w:World}{P:Nat->Prop}{base:Nat}{l:List Pt}{va:Option Addr}{vc:Nat}{zs:List Value}(ho:w.ownsRow base 85 5 (.slice va l.length vc) l.length zs)(hk:PaL w P l zs)(k:Nat)(q:Qy)(hp:l[k]?=some (.ask q)) :
  ∃ g lv,va=some ⟨g,0,none⟩/\QyV w P (qV q.op q.tx lv) q/\∀ w',Below w.heap.size w w'->(loadVar 30 ⟨g,k * 5+2,none⟩).run Tryz.prog w'=.ok (qV q.op q.tx lv) w':=by
 obtain⟨b,tv,o,t,lv,hc,hv⟩:=PaL.nth hk k _ hp
 obtain⟨lv',e,hq⟩:=hv
 have e3:pA b tv o t lv=pA false nilS q.op q.tx lv':=by simpa [pV] using e
 rw [e3] at hc
 rcases ho.2 with⟨h1,h2⟩|⟨g,cap',cur,e,_,hg,_⟩
 ·have:=(List.getElem?_eq_some_iff.1 hp).1
  omega
 ·cases e
  refine⟨g,lv',rfl,hq,fun w' hb=>ZeX (fun j u hj=>?_)⟩
  have hj3:j<3:=(Array.getElem?_eq_some_iff.1 hj).1
  have h5:(pA false nilS q.op q.tx lv')[2+j]?=some u:=by
   rcases (show j=0\/j=1\/j=2 by omega) with rfl|rfl|rfl <;> exact hj
  have:=ho.cells (g:=g) rfl _ _ (hc (2+j) u h5)
  rw [Zav,Nat.zero_add,<- Nat.add_assoc] at this
  exact (hb.cell (p:=⟨g,k * 5+2+j,none⟩) (Array.getElem?_eq_some_iff.1 hg).1).trans this
def lenV:Value->Nat
 | .slice _ n _=>n
 | _=>0
set_option maxRecDepth 100000 in
theorem Znq (l:List Pt)(hB:∀ p ∈ l,PtB p)(hok:∀ q ∈ ZaT l.length l,q.ok)(hsz:((ZaT l.length l).map Qy.sz).sum<=100000)(hln:l.length<=100000)(P:Nat->Prop)(v:Value)(zs:List Value)(w:World)(ho:w.ownsRow 0 85 5 v l.length zs)(hk:PaL w P l zs)(hP:∀ b,P b->b<w.heap.size) :
  Calls Tryz.prog 77 #[v] w fun e w'=>∃ x,e=.returned x/\PaV w' (fun b=>P b\/w.heap.size<=b) x (Zdf l)/\Below w.heap.size w w':=by
 obtain⟨va,vc,rfl⟩:∃ va vc,v=.slice va l.length vc:=by
  rcases ho.2 with⟨rfl,h⟩|⟨g,cap,cur,rfl,_⟩
  ·exact⟨_,_,by rw [h]⟩
  ·exact⟨_,_,rfl⟩
 have hvc:l.length<=vc:=by
  rcases ho.2 with⟨e,h⟩|⟨g,cap,cur,e,_,_,hcap,_⟩
  ·rw [h];exact Nat.zero_le _
  ·cases e;exact hcap
 have LO:=Zaa (fun (w':World) (hb:Below w.heap.size w w')=>Ze2 l hB P _ zs w' (Ze3 ho hb) (hk.kept (fun b _ hl=>hb.block b hl)) (fun b h=>by have:=hP b h;have:=hb.size;omega) (by omega))
 have child:=Zaa (fun k p h=>Zew ho hk k p h)
 have childq:=Zaa (fun k q h=>ZkY ho hk k q h)
 replace hB:=Zaa hB
 replace hP:=Zaa hP
 replace hok:=Zaa hok
 replace hsz:=Zaa hsz
 have H:=St.start Nope w
 clear ho hk
 go_enter Tryz.func77,Tryz.ntmps77
 go_wp2_with (first|((with_reducible refine Zae 85 ?_);refine Za0 H ?_;clear H;intro g2 w1 H q1 q2;have hb1:=H.below)|(go_at_call 130;refine (LO.out _ hb1).mono ?_))
 rintro e w2 ⟨tv,rfl,o2,B2⟩
 have hg2:=H.lti 0 rfl
 have H2:=H.call B2 (Nat.le_refl _)
 have h2g:=Zaa (H2.get 0 rfl)
 have h2b:=Zaa H2.below
 have s12:=Zaa B2.size
 have o2h:=Zaa o2
 generalize hnn:(Zaw l).2=nn at *
 replace hnn:=Zaa hnn
 by_cases hall:nn=l.length
 ·subst hall
  obtain⟨ta,tc,rfl⟩:=ZbE o2
  have hfin:Hid (Zdf l=.told (Zaw l).1):=by show _=_;unfold Zdf;rw [if_pos hnn.out]
  clear H H2 B2 child childq o2 LO
  go_wp2_with (first|((with_reducible refine Zbo ?_);refine ZaI (Zb3 _ ta _ tc rfl rfl _) ?_)|((with_reducible refine Zab 85 ?_);refine ZaQ 85 (v:=pV true (.slice ta (Zaw l).1.length tc) 0 [] nilS) rfl rfl (Zbs h2g.out rfl rfl) ?_))
  refine bodyPost_ret (Zaf rfl _ _ _ _ rfl (ZbQ (setRow_heap _ _ _ _ 85 (0,0) h2g.out))) rfl ?_
  have hpv:PaV w2 (fun b=>w1.heap.size<=b) (pV true (.slice ta (Zaw l).1.length tc) 0 [] nilS) (.told (Zaw l).1):=⟨_,rfl,Zbk o2h.out (Nat.zero_le _),fun b hb=>(ZaN o2h.out hb).1⟩
  obtain⟨r1,r2⟩:=ZdO h2g.out h2b.out q1 hpv (fun h=>by omega)
  refine⟨_,rfl,?_,r2⟩
  rw [hfin.out]
  exact r1.mono (fun b _ hb=>.inr (by have:=hb1.size;omega))
 ·have i0:¬ ((nn:Int)=(l.length:Int)):=by omega
  have hfin:Hid (Zdf l=.ask (tg 3 (ZaT l.length l))):=by show _=_;unfold Zdf;rw [if_neg (by rw [hnn.out];exact hall)]
  have hPb:Hid (∀ b,P b->b<w2.heap.size):=fun b hb=>by have:=hP.out b hb;have:=hb1.size;have:=s12.out;omega
  have hg22:g2<w2.heap.size:=by have:=s12.out;omega
  have hws2:w.heap.size<=w2.heap.size:=by have:=hb1.size;have:=s12.out;omega
  have hH2:=Zaa H2
  have hva0:Hid (l.length - 0<=vc):=by show _<=_;omega
  have hl0:0<l.length:=by
   rcases Nat.eq_zero_or_pos l.length with h|h
   ·have h1:=Zfy l
    rw [hnn.out] at h1
    omega
   ·exact h
  obtain⟨g,hva⟩:∃ g,va=some ⟨g,0,none⟩:=by
   obtain⟨g,_,_,_,_,_,e,_⟩:=child.out 0 _ (List.getElem?_eq_getElem hl0)
   exact⟨g,e⟩
  subst hva
  clear H H2 B2 o2 LO
  go_wp2
  generalize ((nn:Int) ==(l.length:Int))=b16
  go_loopw [0,5] (fun sv lv wr=>∃ (k f:Nat) (acc:List Qy) (sa:Option Addr) (c:Nat),k<=l.length/\sv=.slice sa (l.length - k) c/\Hid (k<l.length->sa=some ⟨g,k * 5,none⟩)/\Hid (l.length - k<=c)/\Hid (RqP wr w2.heap.size P lv (fq acc))/\Hid (St Nope w wr [(true,g2,85,pA false nilS 0 [] nilS)])/\Hid (w2.heap.size<=wr.heap.size)/\Hid (l.length - k<=f/\acc++ZaT f (l.drop k)=ZaT l.length l)) (fun sv _ _=>lenV sv)
  case atStart=>exact⟨0,l.length,[],_,_,Nat.zero_le _,rfl,fun _=>by simp,hvc,RqP.start _ _ _,hH2.out,Nat.le_refl _,by omega,by simp⟩
  case round =>
   obtain⟨k,f,acc,sa,c,hk,rfl,hsa,hc,R,H,hws,hpc⟩:=hrel
   by_cases hlt:k<l.length
   ·obtain rfl:=hsa.out hlt
    obtain⟨m,hm⟩:∃ m,m=l.length - k:=⟨_,rfl⟩
    obtain⟨dl,hdl⟩:∃ dl,dl=l.drop k:=⟨_,rfl⟩
    have hdm:dl.length=m:=by rw [hdl,List.length_drop,hm]
    rw [<- hm]
    rw [<- hm] at hc
    have m1:1<=m:=by omega
    have i3:(0:Int)<(m:Int):=by omega
    have hbw:=H.out.below
    have hch:Hid (∀ j p,dl[j]?=some p->∃ b tv o t lv,tv.oneCell'=true/\lv.oneCell'=true/\PaV wr P (pV b tv o t lv) p/\∀ w',Below wr.heap.size wr w'->(loadVar 85 ⟨g,k * 5+j * 5,none⟩).run Tryz.prog w'=.ok (pV b tv o t lv) w'):=fun j p hj=>by
     rw [hdl,List.getElem?_drop] at hj
     obtain⟨g',b,tv,o,t,lv,e,h1,h2,h3,h4⟩:=child.out _ _ hj
     cases e
     refine⟨b,tv,o,t,lv,h1,h2,h3.kept (fun b _ hl=>hbw.block b hl),fun w' hb=>?_⟩
     have:=h4 w' (hbw.trans (hb.mono hbw.size))
     rwa [show (k+j) * 5=k * 5+j * 5 by omega] at this
    have hBd:Hid (∀ p ∈ dl,PtB p):=fun p hp=>hB.out p (by rw [hdl] at hp;exact List.mem_of_mem_drop hp)
    have LOF:=Zi3 dl hBd.out P g (k * 5) c wr hch.out (fun b h=>by have:=hP.out b h;have:=hbw.size;omega) (by omega)
    rw [hdm] at LOF
    replace LOF:=Zaa LOF
    have hdl1:=Zaa hdl
    have hdm1:=Zaa hdm
    have hm1:=Zaa hm
    clear hdl hdm hm hch
    go_wp2_with (go_at_call 130;refine LOF.out.mono ?_)
    intro e w4 tv4 he4 o4 B4
    subst he4
    have H4:=H.out.call B4 (Nat.le_refl _)
    have R4:=R.out.kept (fun b _ hl=>B4.block b hl)
    have s4:=B4.size
    have hb4:=hbw.trans (B4.mono hbw.size)
    have hL4:∀ e ∈ [((true,g2,85,pA false nilS 0 [] nilS):Ent)],e.2.1<w2.heap.size:=fun e he=>by rw [List.mem_singleton.1 he];exact hg22
    have hacc:(fq acc).len<=1000000:=by
     rw [ZcG]
     have h1:=congrArg List.length hpc.out.2
     rw [List.length_append] at h1
     have h2:=Zkz l.length l
     omega
    obtain⟨n,hn⟩:∃ n,n=(Zaw dl).2:=⟨_,rfl⟩
    have hnm:n<=m:=by rw [hn,<- hdm1.out];exact Zfy dl
    rw [<- hn]
    have hf1:1<=f:=by have:=hpc.out.1;have:=hm1.out;omega
    obtain⟨f',rfl⟩:∃ f',f=f'+1:=⟨f - 1,by omega⟩
    obtain⟨p0,hp0⟩:∃ p,l[k]?=some p:=⟨_,List.getElem?_eq_getElem hlt⟩
    have hdr:dl=p0::l.drop (k+1):=by rw [hdl1.out];exact Zgv hp0
    have hs24:w2.heap.size<=w4.heap.size:=Nat.le_trans hws.out s4
    by_cases hn0:n=0
    ·subst hn0
     obtain⟨q,rfl⟩:=ZhS (hB.out _ (List.mem_of_getElem? hp0)) (by rw [<- hdr];exact hn.symm)
     obtain⟨g',lv',e,hq,hld⟩:=childq.out k q hp0
     cases e
     obtain⟨s1,c1,hsl,hs1,hsc⟩:=Zj4 g (k * 5) m c 1 m1 hc.out (by have:=hm1.out;omega)
     have hq4:=Zaa (hq.kept (w':=w4) (fun b _ hl=>hb4.block b hl))
     have hld4:=Zaa (hld w4.drew hb4.drew)
     have hpc2:Hid (l.length - (k+1)<=f'/\(acc++[q])++ZaT f' (l.drop (k+1))=ZaT l.length l):=by
      refine⟨by have:=hpc.out.1;omega,?_⟩
      rw [<- hpc.out.2,<- hdl1.out,hdr]
      rw [ZaT,if_pos (by rw [<- hdr];exact hn.symm)]
      simp [Pt.q]
     have hslH:=Zaa hsl
     have hs1H:=Zaa hs1
     have hscH:=Zaa hsc
     replace hdr:=Zaa hdr
     replace hn:=Zaa hn
     replace hp0:=Zaa hp0
     replace hacc:=Zaa hacc
     have H4h:=Zaa H4
     have R4h:=Zaa R4
     clear LOF B4 o4 R H hq hld hsl hs1 hsc H4 R4 hpc
     go_wp2
     refine reg77_8 [(true,g2,85,pA false nilS 0 [] nilS)] w w4 w2.heap.size P hPb.out _ (fq acc) q g (k * 5) m c H4h.out R4h.out hacc.out hL4 hws2 hs24 m1 _ lv' hq4.out hld4.out hslH.out _ _ _ _ _ _ _ _ _ _ _ _ _ _ _ _ _ _ _ _ _ _ _ _ _ _ _ _ _ _ _ _ _ _ _ _ _ _ _ _ _ _ _ _ _ _ _ _ (fun X31 X32 X34 v5 w5 H5 R5 z5=>?_)
     rw [Zdt] at R5
     have R5h:=Zaa R5
     have H5h:=Zaa H5
     have s5h:Hid (w2.heap.size<=w5.heap.size):=Nat.le_trans hs24 z5
     have e1:m - 1=l.length - (k+1):=by have:=hm1.out;omega
     clear R5 H5 z5
     rw [e1] at hscH ⊢
     go_wp2
     go_roundw
     case rel=>exact⟨k+1,f',acc++[q],_,_,by omega,rfl,fun h=>by rw [hs1H.out (by have:=hm1.out;omega)];congr 2;omega,hscH.out,R5h,H5h,s5h,hpc2⟩
     case measure=>simp [lenV];omega
    ·obtain⟨s1,c1,hsl,hs1,hsc⟩:=Zj4 g (k * 5) m c n hnm hc.out (by have:=hm1.out;omega)
     have i4:¬ ((n:Int)=0):=by omega
     have QO:=Zaa (Ze1 (Zaw dl).1 (Zb4 dl) tv4 w4.drew (Zbk o4 (Nat.zero_le _)))
     have hpc2:Hid (l.length - (k+n)<=f'/\(acc++[Zba (Zaw dl).1])++ZaT f' (l.drop (k+n))=ZaT l.length l):=by
      refine⟨by have:=hpc.out.1;omega,?_⟩
      rw [<- hpc.out.2,<- List.drop_drop,<- hdl1.out]
      rw [hdr,ZaT,if_neg (by rw [<- hdr];omega)]
      rw [<- hdr,<- hn]
      simp
     have hslH:=Zaa hsl
     have hs1H:=Zaa hs1
     have hscH:=Zaa hsc
     replace hdr:=Zaa hdr
     replace hn:=Zaa hn
     replace hp0:=Zaa hp0
     replace hacc:=Zaa hacc
     have H4h:=Zaa H4
     have R4h:=Zaa R4
     clear LOF B4 o4 R H hsl hs1 hsc H4 R4 hpc
     go_wp2
     refine reg77_9 [(true,g2,85,pA false nilS 0 [] nilS)] w w4 w2.heap.size P hPb.out _ (fq acc) (Zba (Zaw dl).1) g (k * 5) m c H4h.out R4h.out hacc.out hL4 hws2 hs24 m1 _ tv4 n hnm QO.out hslH.out _ _ _ _ _ _ _ _ _ _ _ _ _ _ _ _ _ _ _ _ _ _ _ _ _ _ _ _ _ _ _ _ _ _ _ _ _ _ _ _ _ _ _ _ _ _ (fun X40 X41 v5 w5 H5 R5 z5=>?_)
     rw [Zdt] at R5
     have R5h:=Zaa R5
     have H5h:=Zaa H5
     have s5h:Hid (w2.heap.size<=w5.heap.size):=Nat.le_trans hs24 z5
     have e1:m - n=l.length - (k+n):=by have:=hm1.out;omega
     clear R5 H5 z5
     rw [e1] at hscH
     rw [e1]
     go_wp2
     go_roundw
     case rel=>exact⟨k+n,f',acc++[Zba (Zaw dl).1],_,_,by have:=hm1.out;omega,rfl,fun h=>by rw [hs1H.out (by have:=hm1.out;omega)];congr 2;omega,hscH.out,R5h,H5h,s5h,hpc2⟩
     case measure=>simp [lenV];have:=hm1.out;omega
   ·obtain rfl:k=l.length:=by omega
    have i4:¬ ((0:Int)<((l.length - l.length:Nat):Int)):=by omega
    rw [Nat.sub_self] at i4 ⊢
    have hacc:acc=ZaT l.length l:=by
     have h1:=hpc.out.2
     rw [List.drop_length] at h1
     have h2:ZaT f []=[]:=by cases f <;> rfl
     rw [h2,List.append_nil] at h1
     exact h1
    subst hacc
    obtain⟨zs,oo,kk,pp⟩:=RqP.row R.out
    have TG:=Zaa (ZcD 3 (.inl rfl) (fun b=>P b\/w2.heap.size<=b) _ _ zs _ (ZbH oo (Nat.zero_le _)) pp kk hok.out hsz.out)
    clear oo kk pp R
    go_wp2_with (go_at_call 131;refine TG.out.mono ?_)
    intro e w4 x he hq B4
    subst he
    have H4:=H.out.call B4 (Nat.le_refl _)
    have hq2:=Zaa (hq.mono (P':=fun b=>P b\/w2.heap.size<=b) (fun b _ hb=>by
     have:=hws.out
     rcases hb with (h|h)|h
     ·exact .inl h
     ·exact .inr h
     ·exact .inr (by omega)))
    obtain⟨xa,xm,xc,rfl⟩:=hq2.out.slice
    have h4g:=Zaa (H4.get 0 rfl)
    have h4b:=Zaa H4.below
    clear TG hq B4 H4
    go_wp2_with (first|((with_reducible refine Zbo ?_);refine ZaI (ZbA _ (tg 3 (ZaT l.length l)).op (tg 3 (ZaT l.length l)).tx xa xm xc rfl _) ?_)|((with_reducible refine Zab 85 ?_);refine ZaQ 85 (v:=pV false nilS (tg 3 (ZaT l.length l)).op (tg 3 (ZaT l.length l)).tx (.slice xa xm xc)) rfl rfl (Zbs h4g.out rfl rfl) ?_))
    refine bodyPost_ret (Zaf rfl _ _ _ _ rfl (ZbQ (setRow_heap _ _ _ _ 85 (0,0) h4g.out))) rfl ?_
    have hpv:PaV w4 (fun b=>P b\/w2.heap.size<=b) (pV false nilS (tg 3 (ZaT l.length l)).op (tg 3 (ZaT l.length l)).tx (.slice xa xm xc)) (.ask (tg 3 (ZaT l.length l))):=⟨_,rfl,hq2.out⟩
    obtain⟨r1,r2⟩:=ZdO h4g.out h4b.out q1 hpv (fun h=>by
     rcases h with h|h
     ·have:=hP.out _ h;omega
     ·omega)
    refine⟨_,rfl,?_,r2⟩
    rw [hfin.out]
    exact r1.mono (fun b _ hb=>hb.imp id (fun h=>by omega))
end G
namespace G
open Go.RowKit Go.Shelf
def ptN (n:Nd)(ps:List Pt):Pt:=if n.k=2 then Zdf ps else if n.k=3 then Zdg ps else if n.k=4 then ZaV (ps.headD (.ask allQ)) n.mn n.mx else ZcW n.s
def ptF:Fo->List Pt
 | .nil=>[]
 | .cons n k r=>ptN n (ptF k)::ptF r
def ptT (t:Tr):Pt:=ptN t.1 (ptF t.2)
theorem Znr:∀ f:Fo,(ptF f).length=f.len
 | .nil=>rfl
 | .cons n k r=>by simp [ptF,Fo.len,Znr r]
theorem Zns:∀ (f:Fo)(i:Nat),i<f.len->(ptF f)[i]?=some (ptT (f.nth i))
 | .nil,i,h=>by simp [Fo.len] at h
 | .cons n k r,0,_=>rfl
 | .cons n k r,i+1,h=>by
  have:=Zns r i (by simpa [Fo.len] using h)
  simpa [ptF,Fo.nth] using this
theorem ofNat_lt {a b:Nat}(h:a<b)(hb:b<256):([UInt8.ofNat a]:Tx)<[UInt8.ofNat b]:=by
 refine List.Lex.rel ?_
 rw [UInt8.lt_iff_toNat_lt]
 simp
 omega
theorem ZhT (s:S4):∀ k,∀ t ∈ ZbK s k,∃ b,b<k/\t=[UInt8.ofNat b]:=fun k t h=>by
 unfold ZbK at h
 obtain⟨b,hb,rfl⟩:=List.mem_map.1 h
 exact⟨b,by simpa using (List.mem_filter.1 hb).1,rfl⟩
theorem ZhU (s:S4):∀ k,k<=256->Asc (ZbK s k)
 | 0,_=>by simp [ZbK,Asc]
 | k+1,h=>by
  rw [Zd7]
  have ih:=ZhU s k (by omega)
  split
  ·unfold Asc at *
   rw [List.pairwise_append]
   refine⟨ih,by simp,fun a ha b hb=>?_⟩
   obtain⟨i,hi,rfl⟩:=ZhT s k a ha
   rw [List.mem_singleton.1 hb]
   exact ofNat_lt hi (by omega)
  ·exact ih
theorem Zj5 (s:S4):PtB (ZcW s):=fun ts e=>by
 unfold ZcW at e
 split at e
 ·cases e
 ·cases e
  refine⟨by omega,fun t ht=>?_,ZhU s 256 (Nat.le_refl _)⟩
  obtain⟨b,_,rfl⟩:=ZhT s 256 t ht
  simp
theorem ptN_bd (n:Nd)(ps:List Pt):PtB (ptN n ps):=by
 unfold ptN
 split
 ·exact allOf_bd ps
 ·split
  ·exact ZjF ps
  ·split
   ·exact ZiB _ _ _
   ·exact Zj5 _
theorem Ze8:∀ f:Fo,∀ p ∈ ptF f,PtB p
 | .nil,p,h=>by simp [ptF] at h
 | .cons n k r,p,h=>by
  rcases List.mem_cons.1 h with rfl|h
  ·exact ptN_bd n _
  ·exact Ze8 r p h
theorem ptT_bd (t:Tr):PtB (ptT t):=ptN_bd t.1 _
abbrev noM:Mg:=fun _=>False
theorem pts_no {p:Pt}{M:Mg}(h:PtS p M):PtS p noM:=by
 cases p with
 | told ts=>exact fun s hs=>hs.elim
 | ask q=>exact⟨h.1,fun s hs=>hs.elim⟩
theorem Znt {l:List Pt}(h:∀ p ∈ l,PtS p noM):PtL l (l.map (fun _=>noM)):=by
 induction l with
 | nil=>exact .nil
 | cons p r ih=>exact .cons (h p (by simp)) (ih (fun q hq=>h q (by simp [hq])))
theorem ZgA:allQ.ok:=all_ok
theorem setPt_no (s:S4):PtS (ZcW s) noM:=by
 unfold ZcW
 split
 ·exact⟨ZgA,fun s hs=>hs.elim⟩
 ·exact fun s hs=>hs.elim
theorem Zi4 {p:Pt}(h:PtS p noM)(mn mx:Int):PtS (ZaV p mn mx) noM:=by
 unfold ZaV
 split
 ·exact fun s hs=>hs.elim
 ·split
  ·exact⟨ZgA,fun s hs=>hs.elim⟩
  ·exact⟨h.asked_ok,fun s hs=>hs.elim⟩
theorem ptN_no (n:Nd){ps:List Pt}(h:∀ p ∈ ps,PtS p noM)(hB:∀ p ∈ ps,PtB p):PtS (ptN n ps) noM:=by
 unfold ptN
 split
 ·exact pts_no (ZeN (Znt h) hB)
 ·split
  ·exact pts_no (ZeO (Znt h))
  ·split
   ·refine Zi4 ?_ _ _
    cases ps with
    | nil=>exact⟨ZgA,fun s hs=>hs.elim⟩
    | cons p r=>exact h p (by simp)
   ·exact setPt_no _
theorem Zj6:∀ f:Fo,∀ p ∈ ptF f,PtS p noM
 | .nil,p,h=>by simp [ptF] at h
 | .cons n k r,p,h=>by
  rcases List.mem_cons.1 h with rfl|h
  ·exact ptN_no n (Zj6 k) (Ze8 k)
  ·exact Zj6 r p h
theorem Znu (l:List Pt)(h:∀ p ∈ l,PtS p noM)(hB:∀ p ∈ l,PtB p):∀ q ∈ ZaT l.length l,q.ok:=fun q hq=>(Zee l.length (Znt h) hB q hq).1
def wP (p:Pt):Nat:=max 993 (max p.asked.sz p.q.sz)
theorem ZkZ (p:Pt):PtZ p (wP p)/\993<=wP p:=by
 unfold wP PtZ
 omega
theorem wP_le {p:Pt}{n:Nat}(h:PtZ p n)(hn:993<=n):wP p<=n:=by
 unfold wP
 unfold PtZ at h
 omega
theorem ptN_w (n:Nd)(ps:List Pt):wP (ptN n ps)<=1000+(ps.map wP).sum:=by
 unfold ptN
 split
 ·exact wP_le (allOf_sz wP ps (fun p _=>ZkZ p)) (by omega)
 ·split
  ·exact wP_le (oneOf_sz wP ps (fun p _=>ZkZ p)) (by omega)
  ·split
   ·have h1:=ZkZ (ps.headD (.ask allQ))
    refine Nat.le_trans (wP_le (ZiE _ _ _ _ h1.1 h1.2) h1.2) ?_
    cases ps with
    | nil=>show wP (.ask allQ)<=_;decide
    | cons p r=>simp;omega
   ·refine Nat.le_trans (wP_le (n:=993) ?_ (Nat.le_refl _)) (by omega)
    unfold ZcW
    split
    ·exact⟨by decide,by decide⟩
    ·rename_i h8
     exact Zet ((Zj5 n.s) _ (by unfold ZcW;rw [if_neg h8])) (Nat.le_refl _)
theorem Znv:∀ f:Fo,((ptF f).map wP).sum<=1000 * f.sz
 | .nil=>by simp [ptF]
 | .cons n k r=>by
  have h1:=ptN_w n (ptF k)
  have h2:=Znv k
  have h3:=Znv r
  simp only [ptF,List.map_cons,List.sum_cons,Fo.sz]
  omega
theorem pieces_w (f:Fo):((ZaT (ptF f).length (ptF f)).map Qy.sz).sum<=1000 * f.sz:=Nat.le_trans (Zhj wP _ _ (fun p _=>ZkZ p)) (Znv f)
theorem asked_w (f:Fo):(((ptF f).map Pt.asked).map Qy.sz).sum<=1000 * f.sz:=Nat.le_trans (Zhk wP _ (fun p _=>ZkZ p)) (Znv f)
theorem ptT_w (t:Tr):wP (ptT t)<=1000 * szT t:=by
 have h1:=ptN_w t.1 (ptF t.2)
 have h2:=Znv t.2
 show wP (ptN _ _)<=_
 simp only [szT]
 omega
end G
namespace G
open Go.RowKit Go.Shelf
attribute [local go_sem] Oper.semAt_some
section
variable {w w':World}{ops:Array Oper}{o:Oper}{a:Act}{Q:Exit->Act->World->Prop}{K:Act->World->Prop}{E:Prop}{dst:Option Nat}{x y:Operand}{ty:TypeId}{pos:String}{after:Array Edge}{gd:Option (Nat × Bool)}
theorem ZfN (hgd:Region.wanted o (yielded ops a.tmps)=true)(hr:(execOp a.eval o).run Tryz.prog w=.ok .skip w')(h:K (a.put o.dst undef) w'):if Region.wanted o (yielded ops a.tmps)=true then Oper.wp Tryz.prog o a w K Q else E:=by
 rw [if_pos hgd]
 unfold Oper.wp
 rw [hr]
 exact h
theorem ZgB (T:TypeId)(ev:Operand->Value){ad:Addr}{v:Value}(hx:ev x=.pointer (some ad))(hl:(loadVar T ad).run Tryz.prog w=.ok v w):(execOp ev ⟨dst,.load T x,ty,pos,after,gd⟩).run Tryz.prog w=.ok (.value v) w:=by
 unfold execOp
 simp only [hx,Instr.loadAt,Instr.sureAddr,Sem.run_bind,Sem.run_pure,Result.andThen_ok,hl]
end
set_option maxRecDepth 100000 in
theorem reg35_13 (w:World)(g1 g2 b n c:Nat)(hn:1<=n)(y0:Value)(mn mx:Int)(p:Pt)(Pm:Nat->Prop)(hz:w.heap[g2]?=some (.cells (pA false nilS 0 [] nilS) 85 (0,0)))(hld:∀ W,But (fun k=>k=g2) w W->(loadVar 85 ⟨b,0,none⟩).run Tryz.prog W=.ok y0 W/\(loadVar 3 ⟨g1,6,none⟩).run Tryz.prog W=.ok (.int .i64 mn) W/\(loadVar 3 ⟨g1,7,none⟩).run Tryz.prog W=.ok (.int .i64 mx) W)(hcall:Calls Tryz.prog 79 #[y0,.int .i64 mn,.int .i64 mx] w.drew fun e w'=>∃ z,e=.returned z/\PaV w' Pm z p/\Below w.drew.heap.size w.drew w')
  (u0 u4 u5 u6 u7 u8 u9 u10 u11 u12 u13 u14 u15 u16 u17 u18 u19 u20 u21 u22 u23 u24 u25 u26 u27 u28 u29 u30 u31 u32 u33 u34 u35 u36 u37 u38 u39 u40 u41:Value) (Q:Exit->Act->World->Prop)
  (h:∀ (X32 X34 X36:Value) (bb:Bool) (tv:Value) (o:Int) (t:Tx) (l:Value) (w':World),w'.heap[g2]?=some (.cells (pA false nilS 0 [] nilS) 85 (0,0))->PaV w' Pm (pV bb tv o t l) p->Below w.heap.size w w'->tv.oneCell'=true->l.oneCell'=true->Q .normal { tmps:=(List.toArray ((u0::.pointer (some ⟨g1,0,none⟩)::.pointer (some ⟨g2,0,none⟩)::.slice (some ⟨b,0,none⟩) n c::u4::u5::u6::u7::u8::u9::u10::u11::u12::u13::u14::u15::u16::u17::u18::u19::u20::u21::u22::u23::u24::u25::u26::u27::u28::u29::u30::.slice (some ⟨b,0,none⟩) n c::X32::y0::X34::.int .i64 mn::X36::.int .i64 mx::pV bb tv o t l::u39::u40::u41::[]):List Value)),defers:=[] } (w'.setRow g2 (pA bb tv o t l))) :
  (Code.region 13 #[⟨some 31,.move (.tmp 3),142,"part.go:65",#[],none⟩,⟨some 32,.indexAddr 142 (.tmp 31) (.const (.int .i64 0)),0,"part.go:65",#[⟨0,.data⟩],none⟩,⟨some 33,.load 85 (.tmp 32),85,"part.go:65",#[⟨1,.data⟩],none⟩,⟨some 34,.fieldAddr 27 (.tmp 1) 3,0,"part.go:65",#[],none⟩,⟨some 35,.load 3 (.tmp 34),3,"part.go:65",#[⟨3,.data⟩],none⟩,⟨some 36,.fieldAddr 27 (.tmp 1) 4,0,"part.go:65",#[],none⟩,⟨some 37,.load 3 (.tmp 36),3,"part.go:65",#[⟨5,.data⟩],none⟩,⟨some 38,.call { callee:=.value (.func 79),args:=#[.tmp 33,.tmp 35,.tmp 37],argTypes:=#[85,3,3] },85,"part.go:65",#[⟨2,.data⟩,⟨4,.data⟩,⟨6,.data⟩],none⟩,⟨none,.store 85 (.tmp 2) (.tmp 38),0,"part.go:65",#[⟨7,.data⟩,⟨7,.chain⟩,⟨0,.phase⟩,⟨1,.phase⟩,⟨2,.phase⟩,⟨3,.phase⟩,⟨4,.phase⟩,⟨5,.phase⟩,⟨6,.phase⟩,⟨7,.phase⟩],none⟩] true).wp Tryz.prog Q { tmps:=(List.toArray ((u0::.pointer (some ⟨g1,0,none⟩)::.pointer (some ⟨g2,0,none⟩)::.slice (some ⟨b,0,none⟩) n c::u4::u5::u6::u7::u8::u9::u10::u11::u12::u13::u14::u15::u16::u17::u18::u19::u20::u21::u22::u23::u24::u25::u26::u27::u28::u29::u30::u31::u32::u33::u34::u35::u36::u37::u38::u39::u40::u41::[]):List Value)),defers:=[] } w:=by
 have i0:0<n:=by omega
 have i1:(0:Int)<(n:Int):=by omega
 replace hld:=Zaa hld
 replace hcall:=Zaa hcall
 replace h:=Zaa h
 refine wp_region_noPanic ?_
 refine wp_region_held_drew (S:=fun w0=>But (fun k=>k=g2) w w0) (by kernel_rfl) (But.refl _ _).drew (fun hD=>?_)
 refine wpAnyH_take (i:=0) (oi:=⟨some 31,.move (.tmp 3),142,"part.go:65",#[],none⟩) (v:=?_) rfl (by kernel_rfl) (by kernel_rfl) (by kernel_rfl) (fun _ _ _ h=>h) (Or.inl ⟨by rfl,?_⟩) hD ?_
 rotate_left
 ·intro w' hw'
  clear hw'
  go_simp
  try with_reducible rfl
 try simp only [Act.put,PuA]
 refine wpAnyH_take (i:=1) (oi:=⟨some 32,.indexAddr 142 (.tmp 31) (.const (.int .i64 0)),0,"part.go:65",#[⟨0,.data⟩],none⟩) (v:=?_) rfl (by kernel_rfl) (by kernel_rfl) (by kernel_rfl) (fun _ _ _ h=>h) (Or.inl ⟨by rfl,?_⟩) hD ?_
 rotate_left
 ·intro w' hw'
  clear hw'
  go_simp
  try with_reducible rfl
 try simp only [Act.put,PuA]
 refine wpAnyH_take (i:=2) (oi:=⟨some 33,.load 85 (.tmp 32),85,"part.go:65",#[⟨1,.data⟩],none⟩) (v:=y0) rfl (by kernel_rfl) (by kernel_rfl) (by kernel_rfl) (fun _ _ _ h=>h) (Or.inl ⟨by rfl,?_⟩) hD ?_
 ·intro w' hw'
  exact ZgB 85 _ rfl ((hld.out _ hw').1)
 try simp only [Act.put,PuA]
 refine wpAnyH_take (i:=3) (oi:=⟨some 34,.fieldAddr 27 (.tmp 1) 3,0,"part.go:65",#[],none⟩) (v:=?_) rfl (by kernel_rfl) (by kernel_rfl) (by kernel_rfl) (fun _ _ _ h=>h) (Or.inl ⟨by rfl,?_⟩) hD ?_
 rotate_left
 ·intro w' hw'
  clear hw'
  go_simp
  try with_reducible rfl
 try simp only [Act.put,PuA]
 refine wpAnyH_take (i:=4) (oi:=⟨some 35,.load 3 (.tmp 34),3,"part.go:65",#[⟨3,.data⟩],none⟩) (v:=.int .i64 mn) rfl (by kernel_rfl) (by kernel_rfl) (by kernel_rfl) (fun _ _ _ h=>h) (Or.inl ⟨by rfl,?_⟩) hD ?_
 ·intro w' hw'
  exact ZgB 3 _ rfl ((hld.out _ hw').2.1)
 try simp only [Act.put,PuA]
 refine wpAnyH_take (i:=5) (oi:=⟨some 36,.fieldAddr 27 (.tmp 1) 4,0,"part.go:65",#[],none⟩) (v:=?_) rfl (by kernel_rfl) (by kernel_rfl) (by kernel_rfl) (fun _ _ _ h=>h) (Or.inl ⟨by rfl,?_⟩) hD ?_
 rotate_left
 ·intro w' hw'
  clear hw'
  go_simp
  try with_reducible rfl
 try simp only [Act.put,PuA]
 refine wpAnyH_take (i:=6) (oi:=⟨some 37,.load 3 (.tmp 36),3,"part.go:65",#[⟨5,.data⟩],none⟩) (v:=.int .i64 mx) rfl (by kernel_rfl) (by kernel_rfl) (by kernel_rfl) (fun _ _ _ h=>h) (Or.inl ⟨by rfl,?_⟩) hD ?_
 ·intro w' hw'
  exact ZgB 3 _ rfl ((hld.out _ hw').2.2)
 try simp only [Act.put,PuA]
 refine wpAnyH_ready (rs:=[7]) (by kernel_rfl) (by simp) ?_
 refine (AllReadyH.cons (o:=⟨some 38,.call { callee:=.value (.func 79),args:=#[.tmp 33,.tmp 35,.tmp 37],argTypes:=#[85,3,3] },85,"part.go:65",#[⟨2,.data⟩,⟨4,.data⟩,⟨6,.data⟩],none⟩) rfl (fun K7 hK7=>?_) AllReadyH.nil)
 go_simp
 refine hcall.out.mono ?_
 rintro e w7 ⟨z,rfl,T7,B7⟩
 obtain⟨bb,tv,o,t,l,rfl,hto,hlo⟩:=T7.form
 have h7g:w7.heap[g2]?=some (.cells (pA false nilS 0 [] nilS) 85 (0,0)):=(B7.block g2 (Array.getElem?_eq_some_iff.1 hz).1).trans hz
 refine hK7.out _ _ (But.trans (T:=fun k=>k=g2) hD (Zbd B7 _ (fun k h1 h2=>by have h3:w.heap.size<=k:=h2;omega)) (fun i hi h=>h)) (fun hD1=>?_)
 clear hK7 K7
 try simp only [Act.put,PuA]
 refine wpAnyH_ready (rs:=[8]) (by kernel_rfl) (by simp) ?_
 refine (AllReadyH.cons (o:=⟨none,.store 85 (.tmp 2) (.tmp 38),0,"part.go:65",#[⟨7,.data⟩,⟨7,.chain⟩,⟨0,.phase⟩,⟨1,.phase⟩,⟨2,.phase⟩,⟨3,.phase⟩,⟨4,.phase⟩,⟨5,.phase⟩,⟨6,.phase⟩,⟨7,.phase⟩],none⟩) rfl (fun K8 hK8=>?_) AllReadyH.nil)
 refine ZfN (by rfl) (stT 85 rfl rfl rfl (Zbs h7g hto hlo)) ?_
 refine hK8.out _ _ (But.setRow hD1 (fun _=>rfl) _) (fun hD2=>?_)
 clear hK8 K8
 try simp only [Act.put,PuA]
 refine wpAnyH_done (by kernel_rfl) ?_ _
 refine NoPanic.normal ?_
 exact h.out _ _ _ _ _ _ _ _ _ h7g T7 ⟨B7.os,B7.tape,B7.output,B7.size,B7.block⟩ hto hlo
def okF:Fo->Prop
 | .nil=>True
 | .cons n k r=>OkS n.s/\okF k/\okF r
def okT (t:Tr):Prop:=OkS t.1.s/\okF t.2
theorem Znw:∀ (f:Fo)(k:Nat),k<f.len->okF f->okT (f.nth k)
 | .nil,k,h,_=>by simp [Fo.len] at h
 | .cons n kk r,0,_,h=>⟨h.1,h.2.1⟩
 | .cons n kk r,k+1,h,hf=>Znw r k (by simpa [Fo.len] using h) hf.2.2
theorem Zk0 {α:Type}{l:List α}{k:Nat}{c:α}(h:l[k]?=some c):l.take (k+1)=l.take k++[c]:=by rw [List.take_add_one,h];simp
theorem RpP.base {w:World}{base:Nat}{v:Value}{l:List Pt}(h:RpP w base v l){k:Nat}(hk:v.ownBlock=some k):base<=k:=by
 obtain⟨xs,o,_⟩:=h
 exact (ZcE o hk).1
theorem part_at0 {w:World}{P:Nat->Prop}{base n:Nat}{l:List Pt}{v:Value}{zs:List Value}(ho:w.ownsRow base 85 5 v n zs)(hn:1<=n)(hk:PaL w P l zs)(p:Pt)(hp:l[0]?=some p) :
  ∃ g c b tv o t lv,v=.slice (some ⟨g,0,none⟩) n c/\v.ownBlock=some g/\PaV w P (pV b tv o t lv) p/\∀ W:World,W.heap[g]?=w.heap[g]?->(loadVar 85 ⟨g,0,none⟩).run Tryz.prog W=.ok (pV b tv o t lv) W:=by
 obtain⟨b,tv,o,t,lv,hc,hv⟩:=PaL.nth hk 0 p hp
 rcases ho.2 with⟨h1,h2⟩|⟨g,cap',cur,e,h0,hg,h4⟩
 ·omega
 ·subst e
  refine⟨g,cap',b,tv,o,t,lv,rfl,rfl,hv,fun W hW=>Zm8 (fun j u hj=>?_)⟩
  have oW:W.ownsRow base 85 5 (.slice (some ⟨g,0,none⟩) n cap') n zs:=Zcm ho (fun k hk=>by cases hk;exact hW)
  have:=oW.cells (g:=g) rfl _ _ (hc j u hj)
  rw [Zav,Nat.zero_add] at this
  rw [Nat.zero_mul] at this
  exact this
def Znx (B:Nat)(w:World)(p:Pt)(e:Ending)(w':World):Prop:=∃ y,e=.returned y/\PaV w' (fun b=>B<=b) y p/\Below w.heap.size w w'
theorem Zny {α:Type}{l:List α}{p d:α}(h:l[0]?=some p):l.headD d=p:=by
 cases l with
 | nil=>simp at h
 | cons a r=>simpa using h
set_option maxRecDepth 100000 in
theorem Zk1:∀ (N:Nat)(t:Tr),szT t<=N->∀ (P:Nat->Prop)(x:Value)(w:World),TrV w P x t->ZcF t->okT t->szT t<=99->Calls Tryz.prog 35 #[x] w (Znx w.heap.size w (ptT t)):=by
 intro N
 induction N with
 | zero=>intro t h;simp [szT] at h
 | succ N ih =>
 rintro⟨nd,kids⟩ hN P0 x w T hfit hokt hsz
 obtain⟨v,zs,rfl,ho,hp,hkd⟩:=T
 obtain⟨va,vc,hv,hvc,hvm⟩:=ZaR ho
 subst hv
 simp only at *
 have hlen:kids.len<=98:=by have:=Zcr kids;simp only [szT] at hsz;omega
 have hkidsz:kids.sz<N+1:=by simp only [szT] at hN;omega
 have hkidsz2:kids.sz<=98:=by simp only [szT] at hsz;omega
 have H:=St.start Nope w
 have ihH:=Zaa ih
 clear ih
 obtain⟨kk,ks,kmn,kmx⟩:=nd
 simp only at *
 have hfitk:=Zaa hfit.2
 have hoks:=Zaa hokt.1
 have hokk:=Zaa hokt.2
 clear hokt
 obtain⟨ft1,ft2,ft3,ft4⟩:=hfit.1
 simp only at ft1 ft2 ft3 ft4
 clear hfit
 have child:Hid (∀ j,j<kids.len->∃ b cx,va=some ⟨b,0,none⟩/\b<w.heap.size/\(∃ ca cn cc,cx=reV (kids.nth j).1.k (kids.nth j).1.s (.slice ca cn cc) (kids.nth j).1.mn (kids.nth j).1.mx)/\∀ w',Below w.heap.size w w'->TrV w' P0 cx (kids.nth j)/\(loadVar 27 ⟨b,j * 8,none⟩).run Tryz.prog w'=.ok cx w'):=fun j hj=>by
  obtain⟨cv,czs,hcells,cho,chp,chk⟩:=Kd.nth hkd j hj
  rcases ho.2 with⟨h1,h2⟩|⟨b,cap',cur,hv,_,hgb,_⟩
  ·omega
  ·cases hv
   have hbl:=(Array.getElem?_eq_some_iff.1 hgb).1
   obtain⟨ca,cc,hcv,_,_⟩:=ZaR cho
   refine⟨b,_,rfl,hbl,⟨ca,_,cc,by rw [hcv]⟩,fun w' hb=>⟨TrV.kept (w:=w) ⟨cv,czs,rfl,cho,chp,chk⟩ (fun k _ hk=>hb.block k hk),?_⟩⟩
   refine ZdT (fun i u hi=>?_)
   have:=ho.cells (g:=b) rfl _ _ (hcells i u hi)
   rw [Zav,Nat.zero_add] at this
   exact (hb.cell (p:=⟨b,j * 8+i,none⟩) hbl).trans this
 clear ho hkd hp
 go_enter Tryz.func35,Tryz.ntmps35
 go_wp2_with (first|((with_reducible refine Zar 27 ?_);refine ZaM H rfl ?_;clear H;intro g1 w1 H q1 q2)|((with_reducible refine Zae 85 ?_);refine Za0 H ?_;clear H;intro g2 w2 H q3 q4)|((with_reducible refine Zac 25 ?_);refine Zh8 1 5 H (v:=.slice va kids.len vc) rfl rfl rfl ?_))
 have hg2:=H.lti 0 rfl
 have hg1:=H.lti 1 rfl
 have hw2:=H.below.size
 have hpl:=Znr kids
 have hHs:=Zaa H
 go_loopw [3,9] (fun lv iv wr=>∃ k:Nat,k<=kids.len/\iv=.int .i64 (k:Int)/\Hid (RpP wr w2.heap.size lv ((ptF kids).take k))/\Hid (St Nope w wr [(true,g2,85,pA false nilS 0 [] nilS),(true,g1,27,reA kk ks (.slice va kids.len vc) kmn kmx)])/\Hid (w2.heap.size<=wr.heap.size)) (fun _ iv _=>kids.len - (intOf iv).toNat)
 case atStart=>exact⟨0,Nat.zero_le _,rfl,RpP.start _ _,hHs.out,Nat.le_refl _⟩
 case round =>
  clear H
  obtain⟨k,hk,rfl,R,H,hws⟩:=hrel
  by_cases hlt:k<kids.len
  ·have i3:(k:Int)<(kids.len:Int):=by omega
   obtain⟨bb,cx,hva,hbb,⟨ca,cn,cc0,hcx⟩,hch⟩:=child.out k hlt
   subst hva
   have hfc:=ZeM kids k hlt hfitk.out
   have hoc:=Znw kids k hlt hokk.out
   have hsc:=Zjy kids k hlt
   have hcd:=Zns kids k hlt
   generalize kids.nth k=tc at hch hfc hoc hsc hcx hcd
   subst hcx
   have hbw:=H.out.below
   have hld:=Zaa ((hch _ hbw).2)
   have IH:Hid (∀ w',Below wr.heap.size wr w'->Calls Tryz.prog 35 #[reV tc.1.k tc.1.s (.slice ca cn cc0) tc.1.mn tc.1.mx] w' (Znx w'.heap.size w' (ptT tc))):=fun w' hb=>ihH.out tc (by omega) P0 _ w' (hch _ (hbw.trans (hb.mono hbw.size))).1 hfc hoc (by omega)
   have htk:Hid ((ptF kids).take k++[ptT tc]=(ptF kids).take (k+1)):=(Zk0 hcd).symm
   have HH:=St.start Nope wr
   replace hch:=Zaa hch
   replace hfc:=Zaa hfc
   replace hoc:=Zaa hoc
   replace hcd:=Zaa hcd
   go_wp2_with (first|((with_reducible refine Zac 27 ?_);first|(refine Zas 0 HH rfl rfl ?_)|(refine Zau 27 rfl hld.out ?_))|((with_reducible refine Zae 27 ?_);refine Zap HH ?_;clear HH;intro g5 w5 HH q5 q6)|((with_reducible refine Zab 27 ?_);refine Zao 0 HH rfl rfl rfl rfl ?_;clear HH;intro w6 HH;have hb6:=HH.below)|(go_at_call 35;refine (IH.out _ hb6).mono ?_))
   rintro e w7 ⟨y,rfl,T7,B7⟩
   have b7r:=hb6.trans (B7.mono hb6.size)
   have H7:=H.out.call b7r (Nat.le_refl _)
   have R7:=R.out.kept (fun b _ hl=>b7r.block b hl)
   have lt7:Hid (∀ k,u3.ownBlock=some k->k<w6.heap.size):=fun k hk=>Nat.lt_of_lt_of_le (R.out.top hk) hb6.size
   have ne7:Hid (∀ e ∈ [((true,g2,85,pA false nilS 0 [] nilS):Ent),(true,g1,27,reA kk ks (.slice (some ⟨bb,0,none⟩) kids.len vc) kmn kmx)],u3.ownBlock≠some e.2.1):=fun e he hk=>by
    have h1:=R.out.base hk
    simp only [List.mem_cons,List.not_mem_nil,or_false] at he
    rcases he with rfl|rfl
    ·have h2:w2.heap.size<=g2:=h1;omega
    ·have h2:w2.heap.size<=g1:=h1;omega
   have s26:=Nat.le_trans hws.out hb6.size
   have s67:=B7.size
   have T7h:=Zaa T7
   have hln:Hid (((ptF kids).take k).length<=1000000):=by show _<=_;rw [List.length_take];omega
   clear HH B7 T7 R H b7r
   go_wp2_with ((with_reducible refine at_snocA ?_);refine wl_snocA (p:=ptT tc) H7 R7 T7h.out (fun _=>rfl) (fun _=>rfl) rfl lt7.out s26 s67 hln.out ne7.out hw2 ?_;intro u v8 w8 H8 R8 s8 t8)
   rw [htk.out] at R8
   have R8h:=Zaa R8
   have H8h:=Zaa H8
   have s8h:Hid (w2.heap.size<=w8.heap.size):=Nat.le_trans s26 (Nat.le_trans s67 s8)
   clear R8 H8 s8 t8 H7 R7
   go_wp2
   go_roundw
   case rel=>exact⟨k+1,by omega,by simp,R8h,H8h,s8h⟩
   case measure=>simp [intOf];omega
  ·obtain rfl:k=kids.len:=by omega
   have i4:¬ ((kids.len:Int)<(kids.len:Int)):=by omega
   rw [List.take_of_length_le (by omega)] at R
   obtain⟨xs,ow,pk⟩:=R.out
   have hwB:=H.out.below.size
   have pk2:=pk.mono (P':=fun b=>w2.heap.size<=b/\b<wr.heap.size) (fun b hb hp=>⟨hp.1,hb⟩)
   have owlt:∀ b,(w2.heap.size<=b/\b<wr.heap.size)->b<wr.heap.size:=fun b h=>h.2
   have hmono:∀ {w':World} {y:Value} {p:Pt},PaV w' (fun b=>(w2.heap.size<=b/\b<wr.heap.size)\/wr.heap.size<=b) y p->PaV w' (fun b=>w2.heap.size<=b) y p:=fun h=>h.mono (fun b _ hb=>by
    rcases hb with h|h
    ·exact h.1
    ·exact Nat.le_trans hws.out h)
   rcases ft4 with⟨rfl,hl0⟩|rfl|rfl|rfl
   ·have hfin:Hid (ptT (⟨1,ks,kmn,kmx⟩,kids)=ZcW ks):=by show _=_;simp [ptT,ptN]
    have AO:Hid (∀ w',Below wr.heap.size wr w'->Calls Tryz.prog 80 #[Zbf ks] w' (Znx w'.heap.size w' (ZcW ks))):=fun w' _=>Zgw ks hoks.out w'
    clear R pk pk2 ow
    go_wp2_with (first|((with_reducible refine Zac 3 ?_);refine Zax 1 0 H.out (v:=.int .i64 1) rfl rfl rfl ?_)|((with_reducible refine Zac 24 ?_);refine Zau 24 rfl (ZlS (H.out.get 1 rfl)) ?_)|(go_at_call 80;refine (AO.out _ (Below.refl _ _)).mono ?_))
    rintro e w7 ⟨y,rfl,T7,B7⟩
    obtain⟨bb,tv,o,t,l,rfl,hto,hlo⟩:=T7.form
    have H7:=H.out.call B7 (Nat.le_refl _)
    have h7g:=Zaa (H7.get 0 rfl)
    have h7b:=Zaa H7.below
    have T7m:=Zaa (T7.mono (P':=fun b=>w2.heap.size<=b) (fun b _ hb=>Nat.le_trans hws.out hb))
    clear AO T7 B7 H7
    go_wp2_with ((with_reducible refine Zab 85 ?_);refine ZaQ 85 (v:=pV bb tv o t l) rfl rfl (Zbs h7g.out hto hlo) ?_)
    refine bodyPost_ret (Zaf rfl _ _ _ _ rfl (ZbQ (setRow_heap _ _ _ _ 85 (0,0) h7g.out))) rfl ?_
    obtain⟨r1,r2⟩:=ZdO h7g.out h7b.out q3 T7m.out (fun h=>by omega)
    exact⟨_,rfl,by rw [hfin.out];exact r1.mono (fun b _ hb=>Nat.le_trans hw2 hb),r2⟩
   ·have hfin:Hid (ptT (⟨2,ks,kmn,kmx⟩,kids)=Zdf (ptF kids)):=by show _=_;simp [ptT,ptN]
    have AO:Hid (Calls Tryz.prog 77 #[u3] wr (Znx w2.heap.size wr (Zdf (ptF kids)))):=(Znq (ptF kids) (Ze8 kids) (Znu _ (Zj6 kids) (Ze8 kids)) (Nat.le_trans (pieces_w kids) (by omega)) (by omega) _ u3 xs wr (ZfL ow (Nat.zero_le _)) pk2 owlt).mono (fun e w' ⟨y,he,h1,h2⟩=>⟨y,he,hmono h1,h2⟩)
    clear R pk pk2 ow
    go_wp2_with (first|((with_reducible refine Zac 3 ?_);refine Zax 1 0 H.out (v:=.int .i64 2) rfl rfl rfl ?_)|(go_at_call 77;refine AO.out.mono ?_))
    rintro e w7 ⟨y,rfl,T7,B7⟩
    obtain⟨bb,tv,o,t,l,rfl,hto,hlo⟩:=T7.form
    have H7:=H.out.call B7 (Nat.le_refl _)
    have h7g:=Zaa (H7.get 0 rfl)
    have h7b:=Zaa H7.below
    have T7m:=Zaa T7
    clear AO T7 B7 H7
    go_wp2_with ((with_reducible refine Zab 85 ?_);refine ZaQ 85 (v:=pV bb tv o t l) rfl rfl (Zbs h7g.out hto hlo) ?_)
    refine bodyPost_ret (Zaf rfl _ _ _ _ rfl (ZbQ (setRow_heap _ _ _ _ 85 (0,0) h7g.out))) rfl ?_
    obtain⟨r1,r2⟩:=ZdO h7g.out h7b.out q3 T7m.out (fun h=>by omega)
    exact⟨_,rfl,by rw [hfin.out];exact r1.mono (fun b _ hb=>Nat.le_trans hw2 hb),r2⟩
   ·have hfin:Hid (ptT (⟨3,ks,kmn,kmx⟩,kids)=Zdg (ptF kids)):=by show _=_;simp [ptT,ptN]
    have AO:Hid (Calls Tryz.prog 78 #[u3] wr (Znx w2.heap.size wr (Zdg (ptF kids)))):=(Zng (ptF kids) (Ze8 kids) (fun p hp=>(Zj6 kids p hp).asked_ok) (Nat.le_trans (asked_w kids) (by omega)) (by omega) _ u3 xs wr (ZfL ow (Nat.zero_le _)) pk2 owlt).mono (fun e w' ⟨y,he,h1,h2⟩=>⟨y,he,hmono h1,h2⟩)
    clear R pk pk2 ow
    go_wp2_with (first|((with_reducible refine Zac 3 ?_);refine Zax 1 0 H.out (v:=.int .i64 3) rfl rfl rfl ?_)|(go_at_call 78;refine AO.out.mono ?_))
    rintro e w7 ⟨y,rfl,T7,B7⟩
    obtain⟨bb,tv,o,t,l,rfl,hto,hlo⟩:=T7.form
    have H7:=H.out.call B7 (Nat.le_refl _)
    have h7g:=Zaa (H7.get 0 rfl)
    have h7b:=Zaa H7.below
    have T7m:=Zaa T7
    clear AO T7 B7 H7
    go_wp2_with ((with_reducible refine Zab 85 ?_);refine ZaQ 85 (v:=pV bb tv o t l) rfl rfl (Zbs h7g.out hto hlo) ?_)
    refine bodyPost_ret (Zaf rfl _ _ _ _ rfl (ZbQ (setRow_heap _ _ _ _ 85 (0,0) h7g.out))) rfl ?_
    obtain⟨r1,r2⟩:=ZdO h7g.out h7b.out q3 T7m.out (fun h=>by omega)
    exact⟨_,rfl,by rw [hfin.out];exact r1.mono (fun b _ hb=>Nat.le_trans hw2 hb),r2⟩
   ·obtain⟨hl1,har⟩:=ft2 rfl
    have har2:(0<=kmn/\kmn<=64)/\(kmx=-1\/kmn<=kmx/\kmx<=64):=by simpa [arT] using har
    obtain⟨mn,rfl⟩:∃ mn:Nat,kmn=(mn:Int):=⟨kmn.toNat,by omega⟩
    obtain⟨p,hp⟩:∃ p,(ptF kids)[0]?=some p:=⟨_,List.getElem?_eq_getElem (by omega)⟩
    have hfin:Hid (ptT (⟨4,ks,(mn:Int),kmx⟩,kids)=ZaV p (mn:Int) kmx):=by
     show _=_
     simp [ptT,ptN]
     rw [<- List.headD_eq_head?_getD,Zny hp]
    have e1:(ptF kids).length=1:=by omega
    have hnp:1<=1:=Nat.le_refl 1
    rw [e1] at ow
    obtain⟨g,c,b,tv,o,t,l,hlv,hgo,hpv,hld⟩:=part_at0 ow hnp pk2 p hp
    have hgb:=(ZcE ow hgo)
    subst hlv
    have hbp:=Ze8 kids p (List.mem_of_getElem? hp)
    have h2g:=H.out.get 0 rfl
    have h1g:=H.out.get 1 rfl
    have hgne:g1≠g2:=fun e=>by have:=H.out.nd;simp [e] at this
    have hq3:Hid (∀ W,But (fun k=>k=g2) wr W->(loadVar 85 ⟨g,0,none⟩).run Tryz.prog W=.ok (pV b tv o t l) W/\(loadVar 3 ⟨g1,6,none⟩).run Tryz.prog W=.ok (.int .i64 (mn:Int)) W/\(loadVar 3 ⟨g1,7,none⟩).run Tryz.prog W=.ok (.int .i64 kmx) W):=fun W hb=>by
     have hb1:=(hb.block g1 (H.out.lti 1 rfl) hgne).trans h1g
     exact⟨hld W (hb.block g hgb.2 (by omega)),ld3 (Zal hb1 6 rfl),ld3 (Zal hb1 7 rfl)⟩
    have hcl:Hid (Calls Tryz.prog 79 #[pV b tv o t l,.int .i64 (mn:Int),.int .i64 kmx] wr.drew fun e w'=>∃ z,e=.returned z/\PaV w' (fun b=>w2.heap.size<=b) z (ZaV p (mn:Int) kmx)/\Below wr.drew.heap.size wr.drew w'):=(ZcK p hbp _ _ mn kmx (by omega) wr.drew (PaV.kept (w':=wr.drew) hpv (fun b _ _=>rfl)) owlt).mono (fun e w' ⟨y,he,h1,h2⟩=>⟨y,he,hmono h1,h2⟩)
    have h2gh:=Zaa h2g
    have hws0:=H.out.below
    clear R pk pk2 ow hld hpv h2g h1g
    go_wp2_with (first|((with_reducible refine Zac 3 ?_);refine Zax 1 0 H.out (v:=.int .i64 4) rfl rfl rfl ?_))
    refine reg35_13 wr g1 g2 g 1 c hnp _ (mn:Int) kmx (ZaV p (mn:Int) kmx) (fun b=>w2.heap.size<=b) h2gh.out hq3.out hcl.out _ _ _ _ _ _ _ _ _ _ _ _ _ _ _ _ _ _ _ _ _ _ _ _ _ _ _ _ _ _ _ _ _ _ _ _ _ _ _ _ (fun X32 X34 X36 bb tv o t l w7 h7g T7 B7 hto hlo=>?_)
    have h7gh:=Zaa h7g
    have T7m:=Zaa T7
    have h7b:=Zaa (hws0.trans (B7.mono hws0.size))
    clear h7g T7 B7
    go_wp2
    refine bodyPost_ret (Zaf rfl _ _ _ _ rfl (ZbQ (setRow_heap _ _ _ _ 85 (0,0) h7gh.out))) rfl ?_
    obtain⟨r1,r2⟩:=ZdO h7gh.out h7b.out q3 T7m.out (fun h=>by omega)
    exact⟨_,rfl,by rw [hfin.out];exact r1.mono (fun b _ hb=>Nat.le_trans hw2 hb),r2⟩
end G
section
open Go.RowKit Go.Shelf
attribute [local go_sem] Oper.semAt_some
theorem eqS_no {s:S4}(h:s≠noSet):eqS s noSet=false:=by
 cases he:eqS s noSet with
 | false=>rfl
 | true =>
  exfalso
  apply h
  simp only [eqS,Bool.and_eq_true,beq_iff_eq] at he
  obtain⟨h1,h2,h3,h4⟩:=he
  cases s
  simp_all [noSet]
theorem neq24_no {s:S4}(h:s≠noSet)(w:World):(binOp .neq 24 (.agg #[.int .u64 s.a,.int .u64 s.b,.int .u64 s.c,.int .u64 s.d]) (.agg #[.int .u64 0,.int .u64 0,.int .u64 0,.int .u64 0])).run Tryz.prog w=.ok (.bool true) w:=by
 have:=Zb9 s noSet w
 rw [eqS_no h] at this
 exact this
set_option maxRecDepth 100000 in
theorem nofit_1 (k:Int)(s:S4)(ln:Nat)(mn mx:Int)(h1:¬ k=1)(hs:s≠noSet)(a:Option Addr)(c:Nat)(w:World):Calls Tryz.prog 129 #[reV (k) (s) (.slice a ln c) (mn) (mx)] w fun e w'=>e=.returned (.bool false)/\Below w.heap.size w w':=by
 have H:=St.start Nope w
 have kn:=fun w=>ZdZ w
 have kg:=ZbX
 have h1b:(k == 1)=false:=by simpa using h1
 have kn2:=fun w=>neq24_no hs w
 clear kn hs
 go_enter Tryz.func129,Tryz.ntmps129
 go_wp2_with (first|((with_reducible refine Zar 27 ?_);refine ZaM H rfl ?_;clear H;intro g w' H q1 q2;have c0:=H.cell 0 0 rfl (v:=.int .i64 (k)) rfl;have c1:=H.cell 0 1 rfl (v:=.int .u64 (s).a) rfl;have c2:=H.cell 0 2 rfl (v:=.int .u64 (s).b) rfl;have c3:=H.cell 0 3 rfl (v:=.int .u64 (s).c) rfl;have c4:=H.cell 0 4 rfl (v:=.int .u64 (s).d) rfl;have c5:=H.cell 0 5 rfl (v:=.slice a ln c) rfl;have c6:=H.cell 0 6 rfl (v:=.int .i64 (mn)) rfl;have c7:=H.cell 0 7 rfl (v:=.int .i64 (mx)) rfl;try simp only [noSet] at c1 c2 c3 c4))
 go_ret
 exact⟨rfl,H.below⟩
set_option maxRecDepth 100000 in
theorem nofit_2 (ln:Nat)(mn mx:Int)(h:¬ ln=1)(a:Option Addr)(c:Nat)(w:World):Calls Tryz.prog 129 #[reV (4) (noSet) (.slice a ln c) (mn) (mx)] w fun e w'=>e=.returned (.bool false)/\Below w.heap.size w w':=by
 have H:=St.start Nope w
 have kn:=fun w=>ZdZ w
 have kg:=ZbX
 have hb:((ln:Int) == 1)=false:=beq_eq_false_iff_ne.2 (by omega)
 have hc:¬ ((ln:Int)=1):=by omega
 go_enter Tryz.func129,Tryz.ntmps129
 go_wp2_with (first|((with_reducible refine Zar 27 ?_);refine ZaM H rfl ?_;clear H;intro g w' H q1 q2;have c0:=H.cell 0 0 rfl (v:=.int .i64 (4)) rfl;have c1:=H.cell 0 1 rfl (v:=.int .u64 (noSet).a) rfl;have c2:=H.cell 0 2 rfl (v:=.int .u64 (noSet).b) rfl;have c3:=H.cell 0 3 rfl (v:=.int .u64 (noSet).c) rfl;have c4:=H.cell 0 4 rfl (v:=.int .u64 (noSet).d) rfl;have c5:=H.cell 0 5 rfl (v:=.slice a ln c) rfl;have c6:=H.cell 0 6 rfl (v:=.int .i64 (mn)) rfl;have c7:=H.cell 0 7 rfl (v:=.int .i64 (mx)) rfl;try simp only [noSet] at c1 c2 c3 c4))
 go_ret
 exact⟨rfl,H.below⟩
set_option maxRecDepth 100000 in
theorem nofit_3 (mn mx:Int)(h:arT mn mx=false)(a:Option Addr)(c:Nat)(w:World):Calls Tryz.prog 129 #[reV (4) (noSet) (.slice a 1 c) (mn) (mx)] w fun e w'=>e=.returned (.bool false)/\Below w.heap.size w w':=by
 have H:=St.start Nope w
 have kn:=fun w=>ZdZ w
 have kg:=ZbX
 go_enter Tryz.func129,Tryz.ntmps129
 go_wp2_with (first|((with_reducible refine Zar 27 ?_);refine ZaM H rfl ?_;clear H;intro g w' H q1 q2;have c0:=H.cell 0 0 rfl (v:=.int .i64 (4)) rfl;have c1:=H.cell 0 1 rfl (v:=.int .u64 (noSet).a) rfl;have c2:=H.cell 0 2 rfl (v:=.int .u64 (noSet).b) rfl;have c3:=H.cell 0 3 rfl (v:=.int .u64 (noSet).c) rfl;have c4:=H.cell 0 4 rfl (v:=.int .u64 (noSet).d) rfl;have c5:=H.cell 0 5 rfl (v:=.slice a 1 c) rfl;have c6:=H.cell 0 6 rfl (v:=.int .i64 (mn)) rfl;have c7:=H.cell 0 7 rfl (v:=.int .i64 (mx)) rfl;try simp only [noSet] at c1 c2 c3 c4))
 refine (Zbm mn mx _).mono ?_
 rintro e w1 ⟨rfl,rfl⟩
 rw [h]
 go_wp2_with fail
 go_ret
 exact⟨rfl,H.below⟩
set_option maxRecDepth 100000 in
theorem nofit_4a (s:S4)(ln:Nat)(mn mx:Int)(h:¬ mn=0)(a:Option Addr)(c:Nat)(w:World):Calls Tryz.prog 129 #[reV (1) (s) (.slice a ln c) (mn) (mx)] w fun e w'=>e=.returned (.bool false)/\Below w.heap.size w w':=by
 have H:=St.start Nope w
 have kn:=fun w=>ZdZ w
 have kg:=ZbX
 have hb:(mn == 0)=false:=by simpa using h
 go_enter Tryz.func129,Tryz.ntmps129
 go_wp2_with (first|((with_reducible refine Zar 27 ?_);refine ZaM H rfl ?_;clear H;intro g w' H q1 q2;have c0:=H.cell 0 0 rfl (v:=.int .i64 (1)) rfl;have c1:=H.cell 0 1 rfl (v:=.int .u64 (s).a) rfl;have c2:=H.cell 0 2 rfl (v:=.int .u64 (s).b) rfl;have c3:=H.cell 0 3 rfl (v:=.int .u64 (s).c) rfl;have c4:=H.cell 0 4 rfl (v:=.int .u64 (s).d) rfl;have c5:=H.cell 0 5 rfl (v:=.slice a ln c) rfl;have c6:=H.cell 0 6 rfl (v:=.int .i64 (mn)) rfl;have c7:=H.cell 0 7 rfl (v:=.int .i64 (mx)) rfl;try simp only [noSet] at c1 c2 c3 c4))
 go_ret
 exact⟨rfl,H.below⟩
set_option maxRecDepth 100000 in
theorem nofit_4b (k:Int)(ln:Nat)(mn mx:Int)(h1:¬ k=1)(h4:¬ k=4)(h:¬ mn=0)(a:Option Addr)(c:Nat)(w:World):Calls Tryz.prog 129 #[reV (k) (noSet) (.slice a ln c) (mn) (mx)] w fun e w'=>e=.returned (.bool false)/\Below w.heap.size w w':=by
 have H:=St.start Nope w
 have kn:=fun w=>ZdZ w
 have kg:=ZbX
 have hb:(mn == 0)=false:=by simpa using h
 have h1b:(k == 1)=false:=by simpa using h1
 have h4b:(k == 4)=false:=by simpa using h4
 go_enter Tryz.func129,Tryz.ntmps129
 go_wp2_with (first|((with_reducible refine Zar 27 ?_);refine ZaM H rfl ?_;clear H;intro g w' H q1 q2;have c0:=H.cell 0 0 rfl (v:=.int .i64 (k)) rfl;have c1:=H.cell 0 1 rfl (v:=.int .u64 (noSet).a) rfl;have c2:=H.cell 0 2 rfl (v:=.int .u64 (noSet).b) rfl;have c3:=H.cell 0 3 rfl (v:=.int .u64 (noSet).c) rfl;have c4:=H.cell 0 4 rfl (v:=.int .u64 (noSet).d) rfl;have c5:=H.cell 0 5 rfl (v:=.slice a ln c) rfl;have c6:=H.cell 0 6 rfl (v:=.int .i64 (mn)) rfl;have c7:=H.cell 0 7 rfl (v:=.int .i64 (mx)) rfl;try simp only [noSet] at c1 c2 c3 c4))
 go_ret
 exact⟨rfl,H.below⟩
set_option maxRecDepth 100000 in
theorem nofit_5a (s:S4)(ln:Nat)(mx:Int)(h:¬ mx=0)(a:Option Addr)(c:Nat)(w:World):Calls Tryz.prog 129 #[reV (1) (s) (.slice a ln c) (0) (mx)] w fun e w'=>e=.returned (.bool false)/\Below w.heap.size w w':=by
 have H:=St.start Nope w
 have kn:=fun w=>ZdZ w
 have kg:=ZbX
 have hb:(mx == 0)=false:=by simpa using h
 go_enter Tryz.func129,Tryz.ntmps129
 go_wp2_with (first|((with_reducible refine Zar 27 ?_);refine ZaM H rfl ?_;clear H;intro g w' H q1 q2;have c0:=H.cell 0 0 rfl (v:=.int .i64 (1)) rfl;have c1:=H.cell 0 1 rfl (v:=.int .u64 (s).a) rfl;have c2:=H.cell 0 2 rfl (v:=.int .u64 (s).b) rfl;have c3:=H.cell 0 3 rfl (v:=.int .u64 (s).c) rfl;have c4:=H.cell 0 4 rfl (v:=.int .u64 (s).d) rfl;have c5:=H.cell 0 5 rfl (v:=.slice a ln c) rfl;have c6:=H.cell 0 6 rfl (v:=.int .i64 (0)) rfl;have c7:=H.cell 0 7 rfl (v:=.int .i64 (mx)) rfl;try simp only [noSet] at c1 c2 c3 c4))
 go_ret
 exact⟨rfl,H.below⟩
set_option maxRecDepth 100000 in
theorem nofit_5b (k:Int)(ln:Nat)(mx:Int)(h1:¬ k=1)(h4:¬ k=4)(h:¬ mx=0)(a:Option Addr)(c:Nat)(w:World):Calls Tryz.prog 129 #[reV (k) (noSet) (.slice a ln c) (0) (mx)] w fun e w'=>e=.returned (.bool false)/\Below w.heap.size w w':=by
 have H:=St.start Nope w
 have kn:=fun w=>ZdZ w
 have kg:=ZbX
 have hb:(mx == 0)=false:=by simpa using h
 have h1b:(k == 1)=false:=by simpa using h1
 have h4b:(k == 4)=false:=by simpa using h4
 go_enter Tryz.func129,Tryz.ntmps129
 go_wp2_with (first|((with_reducible refine Zar 27 ?_);refine ZaM H rfl ?_;clear H;intro g w' H q1 q2;have c0:=H.cell 0 0 rfl (v:=.int .i64 (k)) rfl;have c1:=H.cell 0 1 rfl (v:=.int .u64 (noSet).a) rfl;have c2:=H.cell 0 2 rfl (v:=.int .u64 (noSet).b) rfl;have c3:=H.cell 0 3 rfl (v:=.int .u64 (noSet).c) rfl;have c4:=H.cell 0 4 rfl (v:=.int .u64 (noSet).d) rfl;have c5:=H.cell 0 5 rfl (v:=.slice a ln c) rfl;have c6:=H.cell 0 6 rfl (v:=.int .i64 (0)) rfl;have c7:=H.cell 0 7 rfl (v:=.int .i64 (mx)) rfl;try simp only [noSet] at c1 c2 c3 c4))
 go_ret
 exact⟨rfl,H.below⟩
set_option maxRecDepth 100000 in
theorem nofit_6 (s:S4)(ln:Nat)(h:¬ ln=0)(a:Option Addr)(c:Nat)(w:World):Calls Tryz.prog 129 #[reV (1) (s) (.slice a ln c) (0) (0)] w fun e w'=>e=.returned (.bool false)/\Below w.heap.size w w':=by
 have H:=St.start Nope w
 have kn:=fun w=>ZdZ w
 have kg:=ZbX
 have hb:((ln:Int) == 0)=false:=beq_eq_false_iff_ne.2 (by omega)
 have hc:¬ ((ln:Int)=0):=by omega
 go_enter Tryz.func129,Tryz.ntmps129
 go_wp2_with (first|((with_reducible refine Zar 27 ?_);refine ZaM H rfl ?_;clear H;intro g w' H q1 q2;have c0:=H.cell 0 0 rfl (v:=.int .i64 (1)) rfl;have c1:=H.cell 0 1 rfl (v:=.int .u64 (s).a) rfl;have c2:=H.cell 0 2 rfl (v:=.int .u64 (s).b) rfl;have c3:=H.cell 0 3 rfl (v:=.int .u64 (s).c) rfl;have c4:=H.cell 0 4 rfl (v:=.int .u64 (s).d) rfl;have c5:=H.cell 0 5 rfl (v:=.slice a ln c) rfl;have c6:=H.cell 0 6 rfl (v:=.int .i64 (0)) rfl;have c7:=H.cell 0 7 rfl (v:=.int .i64 (0)) rfl;try simp only [noSet] at c1 c2 c3 c4))
 go_ret
 exact⟨rfl,H.below⟩
set_option maxRecDepth 100000 in
theorem nofit_7 (k:Int)(ln:Nat)(h1:¬ k=1)(h2:¬ k=2)(h3:¬ k=3)(h4:¬ k=4)(a:Option Addr)(c:Nat)(w:World):Calls Tryz.prog 129 #[reV (k) (noSet) (.slice a ln c) (0) (0)] w fun e w'=>e=.returned (.bool false)/\Below w.heap.size w w':=by
 have H:=St.start Nope w
 have kn:=fun w=>ZdZ w
 have kg:=ZbX
 have h1b:(k == 1)=false:=by simpa using h1
 have h2b:(k == 2)=false:=by simpa using h2
 have h3b:(k == 3)=false:=by simpa using h3
 have h4b:(k == 4)=false:=by simpa using h4
 go_enter Tryz.func129,Tryz.ntmps129
 go_wp2_with (first|((with_reducible refine Zar 27 ?_);refine ZaM H rfl ?_;clear H;intro g w' H q1 q2;have c0:=H.cell 0 0 rfl (v:=.int .i64 (k)) rfl;have c1:=H.cell 0 1 rfl (v:=.int .u64 (noSet).a) rfl;have c2:=H.cell 0 2 rfl (v:=.int .u64 (noSet).b) rfl;have c3:=H.cell 0 3 rfl (v:=.int .u64 (noSet).c) rfl;have c4:=H.cell 0 4 rfl (v:=.int .u64 (noSet).d) rfl;have c5:=H.cell 0 5 rfl (v:=.slice a ln c) rfl;have c6:=H.cell 0 6 rfl (v:=.int .i64 (0)) rfl;have c7:=H.cell 0 7 rfl (v:=.int .i64 (0)) rfl;try simp only [noSet] at c1 c2 c3 c4))
 go_ret
 exact⟨rfl,H.below⟩
theorem Zgz (n:Nd)(a:Option Addr)(len c:Nat)(h:¬ Zdv n len)(w:World):Calls Tryz.prog 129 #[reV n.k n.s (.slice a len c) n.mn n.mx] w fun e w'=>e=.returned (.bool false)/\Below w.heap.size w w':=by
 obtain⟨k,s,mn,mx⟩:=n
 simp only
 by_cases h1:k=1
 ·subst h1
  by_cases hmn:mn=0
  ·subst hmn
   by_cases hmx:mx=0
   ·subst hmx
    refine nofit_6 s len (fun hl=>h ?_) a c w
    subst hl
    exact⟨fun h=>absurd rfl h,fun h=>by simp at h,fun _=>⟨rfl,rfl⟩,.inl ⟨rfl,rfl⟩⟩
   ·exact nofit_5a s len mx hmx a c w
  ·exact nofit_4a s len mn mx hmn a c w
 by_cases hs:s=noSet
 ·subst hs
  by_cases h4:k=4
  ·subst h4
   by_cases hl:len=1
   ·subst hl
    cases ha:arT mn mx with
    | false=>exact nofit_3 mn mx ha a c w
    | true=>exact absurd ⟨fun _=>rfl,fun _=>⟨rfl,ha⟩,fun h=>absurd rfl h,.inr (.inr (.inr rfl))⟩ h
   ·exact nofit_2 len mn mx hl a c w
  by_cases hmn:mn=0
  ·subst hmn
   by_cases hmx:mx=0
   ·subst hmx
    refine nofit_7 k len h1 (fun h2=>h ?_) (fun h3=>h ?_) h4 a c w
    ·exact⟨fun _=>rfl,fun h=>absurd h h4,fun _=>⟨rfl,rfl⟩,.inr (.inl h2)⟩
    ·exact⟨fun _=>rfl,fun h=>absurd h h4,fun _=>⟨rfl,rfl⟩,.inr (.inr (.inl h3))⟩
   ·exact nofit_5b k len mx h1 h4 hmx a c w
  ·exact nofit_4b k len mn mx h1 h4 hmn a c w
 ·exact nofit_1 k s len mn mx h1 hs a c w
def Fo.ems:Nat->Fo->List (Nat × Nd × Nat)
 | _,.nil=>[]
 | d,.cons n k r=>(d,n,k.len)::(k.ems (d+1)++r.ems d)
def Znz (d:Nat)(t:Tr):List (Nat × Nd × Nat):=(d,t.1,t.2.len)::t.2.ems (d+1)
def Fo.emsTo (f:Fo)(d:Nat):Nat->List (Nat × Nd × Nat)
 | 0=>[]
 | i+1=>f.emsTo d i++Znz d (f.nth i)
theorem ZfO (n:Nd)(k r:Fo)(d:Nat):∀ i,(Fo.cons n k r).emsTo d (i+1)=Znz d (n,k)++r.emsTo d i
 | 0=>by simp [Fo.emsTo,Fo.nth]
 | i+1=>by rw [Fo.emsTo,ZfO n k r d i,Fo.emsTo,List.append_assoc];rfl
theorem ZhV:∀ (f:Fo)(d:Nat),f.emsTo d f.len=f.ems d
 | .nil,_=>rfl
 | .cons n k r,d=>by rw [Fo.len,ZfO,ZhV r,Fo.ems];simp [Znz]
theorem Zi5:∀ (f:Fo)(d:Nat),(f.ems d).length=f.sz
 | .nil,_=>rfl
 | .cons n k r,d=>by simp [Fo.ems,Fo.sz,Zi5 k,Zi5 r];omega
theorem emsT_len (t:Tr)(d:Nat):(Znz d t).length=szT t:=by simp [Znz,szT,Zi5];omega
theorem Zi6 {Q:Nat->Nd->Nat->Prop}:∀ (f:Fo)(d:Nat),(∀ x ∈ f.ems d,Q x.1 x.2.1 x.2.2)->AllF Q d f
 | .nil,_,_=>trivial
 | .cons n k r,d,h=>⟨h (d,n,k.len) (by simp [Fo.ems]),Zi6 k (d+1) (fun x hx=>h x (by simp [Fo.ems,hx])),Zi6 r d (fun x hx=>h x (by simp [Fo.ems,hx]))⟩
theorem Zi7:∀ (f:Fo)(d:Nat),AllF (fun _ n len=>Zdv n len) d f->f.fit
 | .nil,_,_=>trivial
 | .cons n k r,d,⟨h1,h2,h3⟩=>⟨h1,Zi7 k _ h2,Zi7 r _ h3⟩
def keyE {Pr:Nat->Nd->Nat->Prop}(x:Em Pr):Nat × Nd × Nat:=(x.d,x.nd,x.len)
theorem allD:∀ (f:Fo)(d:Nat),d+f.dp<=129->AllF (fun d _ _=>d<=128) d f
 | .nil,_,_=>trivial
 | .cons n k r,d,h=>by
  simp only [Fo.dp] at h
  exact⟨by omega,allD k (d+1) (by omega),allD r d (by omega)⟩
def Give2 {Pr:Nat->Nd->Nat->Prop}(S:Nat->Prop)(J Jx:List (Em Pr)->World->Prop)(pre:List (Em Pr))(kl:List (Nat × Nd × Nat))(W:World)(e:Ending)(W':World):Prop :=
 (e=.returned (.bool true)/\(∃ xs,xs.map keyE=kl/\J (pre++xs) W')/\Kc S W W')\/(e=.returned (.bool false)/\∃ p,Jx p W')
set_option maxRecDepth 100000 in
theorem give2_in {Pr:Nat->Nd->Nat->Prop}(S:Nat->Prop)(l Y G B0:Nat)(J Jx:List (Em Pr)->World->Prop)(B:Nat)(hAJ:AbidesFrom B J)(NN:Nat)
  (hYY:∀ m pre x W1,J pre W1->pre.length<NN->YieldAt Fence.wide m Tryz.prog l (encE x) W1 fun e W'=>(e=.returned (.bool true)/\J (pre++[x]) W'/\Kc S W1 W')\/(e=.returned (.bool false)/\Jx (pre++[x]) W'))
  (hYS:¬ S Y) (hGS:¬ S G) (hS:∀ k,B0<=k->¬ S k) :
  ∀ N nd kids,szT (nd,kids)<=N->∀ (n d:Nat) (W:World) (pre:List (Em Pr)) (v:Value) (zs:List Value),Hid (Pr d nd kids.len)->AllF Pr (d+1) kids->W.ownsRow 0 27 8 v kids.len zs->(∀ b,v.ownBlock=some b->¬ S b)->Kd W (fun b=>¬ S b) kids zs ->
   W.heap[Y]?=some (.cells #[.func (.yield l) #[] #[]] 238 (0,0))->W.heap[G]?=some (.cells #[.func (.func 180) #[] #[.pointer (some ⟨Y,0,none⟩),.pointer (some ⟨G,0,none⟩)]] 238 (0,0))->Hid (J pre W)->pre.length+szT (nd,kids)<=NN->d+szT (nd,kids)<=10000->B0<=W.heap.size ->
   CallsIn Fence.wide n Tryz.prog 180 #[.int .i64 (d:Int),reV nd.k nd.s v nd.mn nd.mx,.pointer (some ⟨Y,0,none⟩),.pointer (some ⟨G,0,none⟩)] W (Give2 S J Jx pre (Znz d (nd,kids)) W):=by
 intro N
 induction N with
 | zero=>intro nd kids h;simp [szT] at h
 | succ N ih =>
  intro nd kids hN n d W pre v zs hPr hA ho hp hk hYb hGb hJ hNN hd hB0
  obtain⟨ad,cap,rfl,hc1,hc2⟩:=ZaR ho
  have hpos:1<=szT (nd,kids):=by simp [szT]
  have hlen:kids.len<=10000:=by have:=Zcr kids;simp only [szT] at hd;omega
  have hAJ':=Zaa hAJ
  replace hA:=Zaa hA
  replace hp:=Zaa hp
  replace hk:=Zaa hk
  replace hS:=Zaa hS
  replace ih:=Zaa ih
  replace ho:=Zaa ho
  replace hYYh:=Zaa hYY
  refine callsIn_of_wp Tryz.func180 rfl trivial ?_ rfl
  simp only [Tryz.ntmps180,List.size_toArray,List.length_cons,List.length_nil,Nat.reduceAdd,Nat.reduceSub,Array.replicate_succ,Array.replicate_zero,List.push_toArray,List.append_toArray,List.nil_append,List.cons_append]
  gi_wp2_with (first|((with_reducible refine Zbh 27 ?_);go_loud (refine ZeK Zad rfl ?_;intro g5 w1 hb5 B1 hge;have hJ1:=Za5 hAJ hJ.out B1;have hc1:=Kc.below (S:=S) B1 (Nat.le_refl _);have hY1:=hc1.2 Y _ _ _ hYS hYb;have cY:=Zal hY1 0 (v:=.func (.yield l) #[] #[]) rfl;obtain⟨fn,tmps,assign,body,hy,hR⟩:=hYY (n - 1) pre ⟨d,nd,ad,kids.len,cap,hPr.out⟩ w1 hJ1 (by omega);simp only [encE] at hy;replace hb5:=Zaa hb5;replace B1:=Zaa B1;replace hJ1:=Zaa hJ1;replace hc1:=Zaa hc1;replace hY1:=Zaa hY1))|((with_reducible refine Zah 238 ?_);refine Zai 238 Zad rfl (ld70 cY) ?_)|((with_reducible refine Zah 27 ?_);refine Zai 27 Zad rfl (ZaG hb5.out) ?_))
  refine⟨fun h=>(by cases h),hR.mono ?_⟩
  rintro e W3 (⟨rfl,hJ3,hk3⟩|⟨rfl,hJx3⟩)
  ·have hcc:Hid (Kc S W W3):=hc1.out.trans hk3
   have hb3:Hid (W3.heap[g5]?=some (.cells (reA nd.k nd.s (.slice ad kids.len cap) nd.mn nd.mx) 27 (0,0))):=hk3.2 g5 _ _ _ (hS.out g5 (by omega)) hb5.out
   have cL:=Zal hb3.out 5 (v:=.slice ad kids.len cap) rfl
   have hG3:=Zaa (hcc.out.2 G _ _ _ hGS hGb)
   have hs3:=hcc.out.1
   have ho3:=Zaa (ZbM ho.out hcc.out hp.out)
   have hkd3:=Zaa (Kd.kc hcc.out hk.out)
   replace hk3:=Zaa hk3
   replace hJ3:=Zaa hJ3
   clear hy hR cY
   gi_wp2_with (first|((with_reducible refine Zah 25 ?_);refine Zai 25 Zad rfl (ld26 cL) ?_))
   gi_loopw [17] (fun i wr=>∃ k xs,i=.int .i64 ((k:Nat):Int)/\k<=kids.len/\Hid (xs.map keyE=(d,nd,kids.len)::kids.emsTo (d+1) k/\xs.length=1+kids.szTo k)/\Hid (J (pre++xs) wr)/\Hid (Kc S W3 wr)) (fun i _=>kids.len - (intOf i).toNat)
   case atStart=>exact⟨0,[⟨d,nd,ad,kids.len,cap,hPr.out⟩],rfl,Nat.zero_le _,⟨rfl,rfl⟩,hJ3,Kc.refl _ _⟩
   case round =>
    obtain⟨k,xs,rfl,hkl,hxs,hJr,hkr⟩:=hrel
    by_cases hlt:k<kids.len
    ·have i1:(k:Int)<(kids.len:Int):=by omega
     have hltH:=Zaa hlt
     have hor:=ZbM ho3.out hkr.out hp.out
     have hkdr:=Kd.kc hkr.out hkd3.out
     obtain⟨cv,czs,hcells,cho,chp,chk⟩:=Kd.nth hkdr k hlt
     obtain⟨cPr,cA⟩:=AllF.nth hA.out k hlt
     have hsz1:=Zip kids (k+1) (by omega)
     have hsz2:kids.szTo (k+1)=kids.szTo k+szT (kids.nth k):=rfl
     have hem2:kids.emsTo (d+1) (k+1)=kids.emsTo (d+1) k++Znz (d+1) (kids.nth k):=rfl
     generalize kids.nth k=ch at hcells cho chp chk cPr cA hsz2 hem2
     obtain⟨cnd,ckids⟩:=ch
     simp only at hcells cho chp chk cPr cA
     have hb:∃ b,ad=some ⟨b,0,none⟩/\∀ j u,(reA cnd.k cnd.s cv cnd.mn cnd.mx)[j]?=some u->wr.cell? ⟨b,k * 8+j,none⟩=some u:=by
      rcases hor.2 with⟨h1,h2⟩|⟨g,cap',cur,hv,_⟩
      ·omega
      ·cases hv
       refine⟨g,rfl,fun j u hj=>?_⟩
       have:=hor.cells (g:=g) rfl _ _ (hcells j u hj)
       rwa [Zav,Nat.zero_add] at this
     obtain⟨b,rfl,hcell⟩:=hb
     obtain⟨ca,cc,hcv,_,_⟩:=ZaR cho
     subst hcv
     have hl28:=Zaa (ZdT hcell)
     have hsz3:szT (nd,kids)=1+kids.sz:=rfl
     have hGr:=hkr.out.2 G _ _ _ hGS hG3.out
     have hYr:=hkr.out.2 Y _ _ _ hYS (hk3.out.2 Y _ _ _ hYS hY1.out)
     have hsr:=hkr.out.1
     have hxl:=hxs.out.2
     replace hem2:=Zaa hem2
     replace hcells:=Zaa hcells
     replace hcell:=Zaa hcell
     replace cho:=Zaa cho
     replace chp:=Zaa chp
     replace chk:=Zaa chk
     replace cPr:=Zaa cPr
     replace cA:=Zaa cA
     replace hor:=Zaa hor
     replace hkdr:=Zaa hkdr
     replace hGr:=Zaa hGr
     replace hYr:=Zaa hYr
     gi_wp2_with (first|((with_reducible refine Zah 27 ?_);refine Zai 27 Zad rfl (hl28.out) ?_)|((with_reducible refine ZdC ?_);refine ZdD Zad rfl (fun _=>rfl) (fun _=>rfl) ?_;intro g8 w8 hb8 B8 hg8;have hk8:=Zaa (Kc.below (S:=S) B8 (Nat.le_refl _));have cG:=Zal (hk8.out.2 G _ _ _ hGS hGr.out) 0 (v:=.func (.func 180) #[] #[.pointer (some ⟨Y,0,none⟩),.pointer (some ⟨G,0,none⟩)]) rfl;have hl8:=Zaa (ZaG hb8);replace hb8:=Zaa hb8;replace B8:=Zaa B8)|((with_reducible refine Zah 238 ?_);refine Zai 238 Zad rfl (ld70 cG) ?_)|((with_reducible refine Zah 27 ?_);refine Zai 27 Zad rfl (hl8.out) ?_))
     have hs8:=B8.out.size
     refine⟨trivial,fun h=>(by cases h),(ih.out cnd ckids (by omega) _ (d+1) w8 (pre++xs) _ czs cPr.out cA.out (ZbM cho.out hk8.out chp.out) chp.out (Kd.kc hk8.out chk.out) (hk8.out.2 Y _ _ _ hYS hYr.out) (hk8.out.2 G _ _ _ hGS hGr.out) (Za5 hAJ hJr.out B8.out) (by rw [List.length_append];omega) (by omega) (by omega)).mono ?_⟩
     rintro e W9 (⟨rfl,⟨ys,hys,hJ9⟩,hk9⟩|⟨rfl,p,hJx9⟩)
     ·have hJ10:Hid (J (pre++(xs++ys)) W9):=by
       have:=hJ9
       rw [List.append_assoc] at this
       exact this
      have hk10:Hid (Kc S W3 W9):=hkr.out.trans (hk8.out.trans hk9)
      have hl10:Hid ((xs++ys).map keyE=(d,nd,kids.len)::kids.emsTo (d+1) (k+1)/\(xs++ys).length=1+kids.szTo (k+1)):=by
       refine⟨?_,?_⟩
       ·rw [List.map_append,hxs.out.1,hys,hem2.out];rfl
       ·have hyl:ys.length=szT (cnd,ckids):=by rw [<- emsT_len (cnd,ckids) (d+1),<- hys,List.length_map]
        rw [List.length_append,hxl,hyl,hsz2];omega
      clear hJ9 hk9 hys
      gi_wp2
      go_roundw
      case rel=>exact⟨k+1,xs++ys,by go_num,hltH.out,hl10,hJ10,hk10⟩
      case measure=>have:=hltH.out;simp [intOf];omega
     ·gi_wp2
      go_ret
      exact .inr ⟨rfl,_,hJx9⟩
    ·obtain rfl:k=kids.len:=by omega
     gi_wp2
     go_ret
     exact .inl ⟨rfl,⟨xs,by rw [hxs.out.1,ZhV];rfl,hJr.out⟩,hcc.out.trans hkr.out⟩
  ·gi_wp2
   go_ret
   exact .inr ⟨rfl,_,hJx3⟩
set_option maxRecDepth 100000 in
theorem ZgC {Pr:Nat->Nd->Nat->Prop}(S:Nat->Prop)(n:Nat)(B:Nat)(t:Tr)(v:Value)(zs:List Value)(w:World)(hB:w.heap[B]?=some (.cells (reA t.1.k t.1.s v t.1.mn t.1.mx) 27 (0,0)))(ho:w.ownsRow 0 27 8 v t.2.len zs)(hp:∀ b,v.ownBlock=some b->¬ S b)(hk:Kd w (fun b=>¬ S b) t.2 zs)(hPr:Pr 1 t.1 t.2.len)(hA:AllF Pr 2 t.2)(hsz:szT t<=9000)(hBS:¬ S B)(hS:∀ k,w.heap.size<=k->¬ S k) :
  SeqStopsK Fence.wide n Tryz.prog 179 #[.pointer (some ⟨B,0,none⟩)] (encE (Pr:=Pr)) (Kc S) (fun xs=>xs.map keyE=Znz 1 t) (fun _=>True) (szT t) w:=fun l J Jx W hW hAJ hAJx hYY h0=>by
 obtain⟨nd,kids⟩:=t
 simp only at *
 have hmf:∀ (fn:Fn) (first cap:Array Value) (w:World),(Instr.makeFunc fn first cap).run Tryz.prog w=.ok (.func fn first cap) w:=fun _ _ _ _=>rfl
 have hBl:B<w.heap.size:=(Array.getElem?_eq_some_iff.1 hB).1
 have hsw:=hW.size
 have kW:Hid (Kc S w W):=Kc.below hW (Nat.le_refl _)
 obtain⟨va,vc,hv,_,_⟩:=ZaR ho
 subst hv
 replace hYY:Hid _:=Zaa hYY
 replace ho:=Zaa ho
 replace hp:=Zaa hp
 replace hk:=Zaa hk
 replace hPr:=Zaa hPr
 replace hA:=Zaa hA
 replace hS:=Zaa hS
 replace hW:=Zaa hW
 replace hAJh:=Zaa hAJ
 replace h0:=Zaa h0
 show CallsIn Fence.wide n Tryz.prog 179 #[.func (.yield l) #[] #[],.pointer (some ⟨B,0,none⟩)] W _
 refine callsIn_of_wp Tryz.func179 rfl trivial ?_ rfl
 simp only [Tryz.ntmps179,List.size_toArray,List.length_cons,List.length_nil,Nat.reduceAdd,Nat.reduceSub,Array.replicate_succ,Array.replicate_zero,List.push_toArray,List.append_toArray,List.nil_append,List.cons_append]
 gi_wp2_with (first|((with_reducible refine Zbh 238 ?_);refine Zg5 Zad rfl ?_;intro Y w1 hbY B1 hgY;replace hbY:=Zaa hbY;replace B1:=Zaa B1)|((with_reducible refine ZaO 238 ?_);refine ZeL Zad ?_;intro G w2 hbG B2 hgG;replace hbG:=Zaa hbG;replace B2:=Zaa B2)|((with_reducible refine Zay 238 ?_);refine Zjx Zad hbG.out rfl rfl ?_;intro w3 hbG3 B3;have hs1:=B1.out.size;have hs2:=B2.out.size;have hl1:=(Array.getElem?_eq_some_iff.1 hbY.out).1;have hY2:Hid (w2.heap[Y]?=some (.cells #[.func (.yield l) #[] #[]] 238 (0,0))):=(B2.out.block Y hl1).trans hbY.out;have hY3:Hid (w3.heap[Y]?=some (.cells #[.func (.yield l) #[] #[]] 238 (0,0))):=(B3.block Y (by omega) (by omega)).trans hY2.out;have BW:Hid (Below W.heap.size W w3):=(B1.out.trans (B2.out.mono hs1)).trans (B3.below (by omega) (fun k e=>by omega));have k3:Hid (Kc S w w3):=kW.out.trans (Kc.below BW.out (Nat.le_refl _));have hB3:=k3.out.2 B _ _ _ hBS hB;have cG:=Zal hbG3 0 (v:=.func (.func 180) #[] #[.pointer (some ⟨Y,0,none⟩),.pointer (some ⟨G,0,none⟩)]) rfl;replace hbG3:=Zaa hbG3;have hl28:=Zaa (ZaG hB3);replace hB3:=Zaa hB3;replace B3:=Zaa B3)|((with_reducible refine Zah 238 ?_);refine Zai 238 Zad rfl (ld70 cG) ?_)|((with_reducible refine Zah 27 ?_);refine Zai 27 Zad rfl (hl28.out) ?_))
 have hs3:=BW.out.size
 refine⟨trivial,fun h=>(by cases h),(give2_in S l Y G w.heap.size J Jx W.heap.size hAJ (szT (nd,kids)) (fun m pre x W1 hj hl=>ZbW (hYY.out pre x W1 hj hl)) (hS.out Y (by omega)) (hS.out G (by omega)) hS.out (szT (nd,kids)) nd kids (Nat.le_refl _) _ 1 w3 [] _ zs hPr.out hA.out (ZbM ho.out k3.out hp.out) hp.out (Kd.kc k3.out hk.out) hY3.out hbG3.out (Za5 hAJ h0.out BW.out) (by simp) (by omega) (by omega)).mono ?_⟩
 rintro e W9 (⟨rfl,⟨ys,hys,hJ9⟩,hk9⟩|⟨rfl,p,hJx9⟩)
 ·replace hJ9:=Zaa hJ9
  clear hk9
  gi_wp2
  go_end0
  exact⟨⟨_,rfl⟩,.inl ⟨ys,hys,by simpa using hJ9.out⟩⟩
 ·replace hJx9:=Zaa hJx9
  gi_wp2
  go_end0
  exact⟨⟨_,rfl⟩,.inr ⟨p,trivial,hJx9.out⟩⟩
set_option maxRecDepth 100000 in
theorem size_no (n:Nat)(hn:3<=n)(t:Tr)(P:Nat->Prop)(x:Value)(w:World)(T:TrV w P x t)(hf:¬ ZcF t)(hsz:szT t<=4096)(hdp:dpT t<=128) :
  CallsIn Fence.wide n Tryz.prog 76 #[x] w fun e w'=>e=.returned (.int .i64 0)/\Below w.heap.size w w':=by
 obtain⟨v,zs,rfl,ho,hp,hk⟩:=T
 obtain⟨va,vc,hv,_,_⟩:=ZaR ho
 subst hv
 obtain⟨nd,kids⟩:=t
 simp only at *
 have hold:Hid (Kd w (fun b=>b<w.heap.size) kids zs):=hk.mono (fun b hb _=>hb)
 have hown:Hid (∀ b,(Value.slice va kids.len vc).ownBlock=some b->b<w.heap.size):=fun b hb=>(Za9 ho hb).2
 have hPr:Hid (1<=128):=Nat.le_of_ble_eq_true rfl
 have hA:Hid (AllF (fun d _ _=>d<=128) 2 kids):=allD kids 2 (by simp only [dpT] at hdp;omega)
 replace ho:=Zaa ho
 replace hf:=Zaa hf
 clear hk hp
 have H:=St.start Nope w
 have m0:=trivial
 refine callsIn_of_wp_marks Tryz.func76 rfl trivial ?_ rfl
 simp only [Tryz.ntmps76,List.size_toArray,List.length_cons,List.length_nil,Nat.reduceAdd,Nat.reduceSub,Array.replicate_succ,Array.replicate_zero,List.push_toArray,List.append_toArray,List.nil_append,List.cons_append]
 gi_wp2_with (first|((with_reducible refine Zbh 27 ?_);refine Zg9 Zad H rfl ?_;clear H;intro g1 w1 H hg1)|((with_reducible refine ZaO 3 ?_);clear m0;refine Zcs Zad H ?_;clear H;intro gr w2 H hgr)|((with_reducible refine ZaO 3 ?_);refine Zcs Zad H ?_;clear H;intro g w2 H hg)|((with_reducible refine Zay 3 ?_);refine Zir 0 Zad H rfl rfl rfl ?_;clear H;intro w3 H)|((with_reducible refine Zah 27 ?_);refine Zfv 2 Zad H rfl rfl ?_))
 have hln3:=H.lti 0 rfl
 have hlr3:=H.lti 1 rfl
 refine⟨trivial,fun h=>(by cases h),(Zg4 _ _ _ _ _ _ _).mono ?_⟩
 rintro e w5 ⟨gB,rfl,hbB,B5,hgB⟩
 replace H:=H.call B5 (Nat.le_refl _)
 have hb5:=H.below
 have hs5:=hb5.size
 have hn5:=H.get 0 rfl
 have hr5:=H.get 1 rfl
 have hln:=H.lti 0 rfl
 have hlr:=H.lti 1 rfl
 have hne:Hid (g≠gr):=fun e=>by
  have:=H.nd
  simp [e] at this
 have hlB:=(Array.getElem?_eq_some_iff.1 hbB).1
 have hgBn:Hid (gB≠g/\gB≠gr):=⟨by omega,by omega⟩
 have hkw:Hid (Kc (fun k=>k=g\/k=gr) w w5):=Kc.below hb5 (Nat.le_refl _)
 have hst:=ZgC (Pr:=fun d _ _=>d<=128) (fun k=>k=g\/k=gr) (n - 1) gB (nd,kids) (.slice va kids.len vc) zs w5 hbB (ZbM ho.out hkw.out (fun b hb=>by have:=hown.out b hb;omega)) (fun b hb=>by have:=hown.out b hb;omega) (Kd.kc hkw.out (hold.out.mono (fun b _ h=>by omega))) hPr.out hA.out (by omega) (by have:=hgBn.out;omega) (fun k hk=>by omega)
 have I0:SzI w g gr 0 w5:=⟨hn5,hr5,hb5⟩
 gi_wp2
 refine wpIn_rangeFunc_ownH rfl (by omega) (gf:=179) (lb:=#[.pointer (some ⟨gB,0,none⟩)]) rfl (Zad 82) (enters_of Tryz.func179 (by kernel_rfl) rfl)
  hst (fun h k=>h.trans k) (fun W l o o' hl ho hc _=>⟨by simp [World.putObj],fun k cs t fr hn e=>?kb⟩) (Below.refl _ w5) (fun _=>rfl)
  (fun pre W=>SzI w g gr pre.length W/\∀ x ∈ pre,Zdv x.nd x.len)
  (fun c pre W=>c=.ret/\∃ k,SzI w g gr k W)
  (fun pre W W' row hs hg hr=>⟨hs.1.own hs5 hg hr,hs.2⟩)
  (fun c pre W W' row hs hg hr=>⟨hs.1,by obtain⟨k,h⟩:=hs.2;exact⟨k,h.own hs5 hg hr⟩⟩)
  ⟨I0,fun x hx=>(by cases hx)⟩
  (fun x a' W=>∃ g5,a'={ tmps:=#[reV nd.k nd.s (.slice va kids.len vc) nd.mn nd.mx,.pointer (some ⟨g1,0,none⟩),.pointer (some ⟨gr,0,none⟩),.pointer (some ⟨g,0,none⟩),.int .i64 (x.d:Int),.pointer (some ⟨g5,0,none⟩),reV nd.k nd.s (.slice va kids.len vc) nd.mn nd.mx,.func (.func 179) #[] #[.pointer (some ⟨gB,0,none⟩)],.int .i64 (x.d:Int),reV x.nd.k x.nd.s (.slice x.ad x.len x.cap) x.nd.mn x.nd.mx,undef,undef,undef,undef,undef,undef,undef,undef,undef,undef,undef,undef,undef,undef],defers:=[] }/\W.heap[g5]?=some (.cells (reA x.nd.k x.nd.s (.slice x.ad x.len x.cap) x.nd.mn x.nd.mx) 27 (0,0)))
  (fun x a' _ W W' row hs hg hr=>?ax) ?assign ?body ?done ?stop
 case kb =>
  rw [(grownBy_putObj' W l o').block k (Array.getElem?_eq_some_iff.1 e).1 (fun h=>by cases h;rw [ho] at e;cases e;cases hc)]
  exact e
 case ax =>
  obtain⟨g5,e1,e2⟩:=hs
  refine⟨g5,e1,(hg.block g5 (Array.getElem?_eq_some_iff.1 e2).1 (fun e=>?_)).trans e2⟩
  obtain⟨_,o,ho,hc⟩:=hr g5 e.symm
  rw [e2] at ho
  cases ho
  cases hc
 case assign =>
  intro l pre x W K hi hK
  simp only [encE,List.zip_toArray,List.zip_cons_cons,List.zip_nil_left,List.zip_nil_right,List.foldl_toArray,List.foldl_cons,List.foldl_nil,List.setIfInBounds_toArray,List.set_cons_zero,List.set_cons_succ]
  replace hK:=Zaa hK
  replace hi:=Zaa hi
  gi_wp2_with (first|((with_reducible refine ZdC ?_);refine ZdD (Zan l) rfl (fun _=>rfl) (fun _=>rfl) ?_;intro g5 w8 hb8 B8 hg8;replace hb8:=Zaa hb8;replace B8:=Zaa B8))
  have hbl:=hi.out.1.bel.size
  exact hK.out _ w8 (Za7 (Zbu B8.out (Nat.le_refl _) (fun _=>False)) (fun k h=>h.elim)) (Kc.below B8.out (Nat.le_refl _)) ⟨hi.out.1.own hs5 (ZbV B8.out) (fun r e=>(by cases e)),hi.out.2⟩ ⟨g5,rfl,hb8.out⟩
 case body =>
  rintro l pre x a' W hl ⟨r,hr⟩ ⟨hi,hall⟩ ⟨g5,rfl,hb5'⟩ hlt
  have hne5:g5≠g:=fun e=>by
   have h:=hi.n.symm.trans (e ▸ hb5')
   simp at h
  have cN:=Zal hi.n 0 (v:=.int .i64 (pre.length:Int)) rfl
  have hPx:=x.h
  have hd:(x.d:Int)<=128:=by have:=hPx;omega
  have hd2:¬ ((128:Int)<(x.d:Int)):=by omega
  have hc2:¬ ((4096:Int)<(pre.length:Int)+1):=by omega
  have hll:pre.length<4096:=by omega
  have hNs:=Zaa hi.n
  replace hall:=Zaa hall
  by_cases hfx:Zdv x.nd x.len
  ·have FI:=Zaa (fun w=>Zg8 x.nd x.ad x.len x.cap hfx w)
   replace hfx:=Zaa hfx
   replace hPx:=Zaa hPx
   replace hi:=Zaa hi
   replace hb5':=Zaa hb5'
   replace hr:=Zaa hr
   gi_wp2_with (first|((with_reducible refine Zay 3 ?_);refine Zcv (Zan l) hNs.out rfl rfl ?_;intro w7 hn7 B7;have cN7:=Zal hn7 0 (v:=.int .i64 ((pre.length:Int)+1)) rfl;replace hn7:=Zaa hn7;have hb7:=Zaa ((B7.block g5 (Array.getElem?_eq_some_iff.1 hb5'.out).1 hne5).trans hb5'.out);replace B7:=Zaa B7)|((with_reducible refine ZcN 27 ?_);refine ZcM 27 (Zan l) rfl rfl (ZaG hb7.out) ?_))
   refine⟨trivial,fun h=>(by cases h),(callsIn_wide.2 (FI.out w7)).mono ?_⟩
   rintro e w9 ⟨rfl,B9⟩
   have B79:Hid (But (fun k=>k=g) W w9):=B7.out.trans (Zbu B9 (Nat.le_refl _) (fun _=>False)) (fun i _ h=>h.elim)
   replace B9:=Zaa B9
   gi_wp2
   have hlg:=(Array.getElem?_eq_some_iff.1 hn7.out).1
   have hlr9:=(Array.getElem?_eq_some_iff.1 hi.out.r).1
   refine⟨Za7 B79.out (fun k e=>.inl (by omega)),ZlW B79.out (fun k e=>.inl e),⟨?_,?_,?_⟩,fun y hy=>?_⟩
   ·rw [B9.out.block g hlg,hn7.out]
    simp
   ·rw [B79.out.block gr hlr9 (fun e=>hne.out e.symm),hi.out.r]
   ·exact hi.out.bel.trans (B79.out.below hi.out.bel.size (fun k e=>by omega))
   ·rcases List.mem_append.1 hy with h|h
    ·exact hall.out y h
    ·rw [List.mem_singleton.1 h];exact hfx.out
  ·have FI:=Zaa (fun w=>Zgz x.nd x.ad x.len x.cap hfx w)
   replace hfx:=Zaa hfx
   replace hPx:=Zaa hPx
   have cR:=Zal hi.r 0 (v:=.int .i64 0) rfl
   have hlr0:=(Array.getElem?_eq_some_iff.1 hi.r).1
   have hrh:=Zaa hi.r
   replace hi:=Zaa hi
   replace hb5':=Zaa hb5'
   replace hr:=Zaa hr
   clear cR
   gi_wp2_with (first|((with_reducible refine Zay 3 ?_);refine Zcv (Zan l) hNs.out rfl rfl ?_;intro w7 hn7 B7;have cN7:=Zal hn7 0 (v:=.int .i64 ((pre.length:Int)+1)) rfl;replace hn7:=Zaa hn7;have hb7:=Zaa ((B7.block g5 (Array.getElem?_eq_some_iff.1 hb5'.out).1 hne5).trans hb5'.out);replace B7:=Zaa B7)|((with_reducible refine ZcN 27 ?_);refine ZcM 27 (Zan l) rfl rfl (ZaG hb7.out) ?_))
   refine⟨trivial,fun h=>(by cases h),(callsIn_wide.2 (FI.out w7)).mono ?_⟩
   rintro e w9 ⟨rfl,B9⟩
   have B79:Hid (But (fun k=>k=g) W w9):=B7.out.trans (Zbu B9 (Nat.le_refl _) (fun _=>False)) (fun i _ h=>h.elim)
   have hlg:=(Array.getElem?_eq_some_iff.1 hn7.out).1
   have hN9:Hid (w9.heap[g]?=some (.cells #[.int .i64 ((pre.length:Int)+1)] 3 (0,0))):=by
    show w9.heap[g]?=_
    rw [B9.block g hlg,hn7.out]
   have hR9:Hid (w9.heap[gr]?=some (.cells #[.int .i64 0] 3 (0,0))):=by
    show w9.heap[gr]?=_
    rw [B79.out.block gr hlr0 (fun e=>hne.out e.symm),hrh.out]
   have hbel9:Hid (Below w.heap.size w w9):=hi.out.bel.trans (B79.out.below hi.out.bel.size (fun k e=>by omega))
   replace B9:=Zaa B9
   gi_wp2_with (first|((with_reducible refine Zay 3 ?_);refine Zcv (Zan l) hR9.out rfl rfl ?_;intro w10 hn10 B10;replace hn10:=Zaa hn10;replace B10:=Zaa B10))
   have BB:But (fun k=>k=g\/k=gr) W w10:=(B79.out.mono (fun k h=>.inl h)).trans B10.out (fun i _ h=>.inr h)
   have hlg9:=(Array.getElem?_eq_some_iff.1 hN9.out).1
   refine⟨Za7 BB (fun k e=>.inl (by omega)),rfl,pre.length+1,⟨?_,hn10.out,hbel9.out.trans (B10.out.below hbel9.out.size (fun k e=>by omega))⟩⟩
   rw [B10.out.block g hlg9 hne.out,hN9.out]
   simp
 case done =>
  rintro D xs W hD hS ⟨hI,hall⟩ hK
  exfalso
  apply hf.out
  have h1:∀ y ∈ Znz 1 (nd,kids),Zdv y.2.1 y.2.2:=fun y hy=>by
   rw [<- hS] at hy
   obtain⟨z,hz,rfl⟩:=List.mem_map.1 hy
   exact hall z hz
  exact⟨h1 (1,nd,kids.len) (by simp [Znz]),Zi7 kids 2 (Zi6 kids 2 (fun y hy=>h1 y (by simp [Znz,hy])))⟩
 case stop =>
  rintro D c pre W hD hc ⟨rfl,k,hI⟩ hK
  have hl92:=(Array.getElem?_eq_some_iff.1 hI.r).1
  have hIH:=Zaa hI
  replace hK:=Zaa hK
  clear hI
  gi_wp2
  have B77:=grownBy_putObj' W D (.deferred none)
  have hn9:(W.putObj D (.deferred none)).heap[gr]?=some (.cells #[.int .i64 0] 3 (0,0)):=(B77.block gr hl92 (fun e=>by cases e;omega)).trans hIH.out.r
  refine⟨by simp,.inl ⟨_,_,rfl,run_takeDeferred hK.out,?_⟩⟩
  refine⟨_,Zaf rfl _ _ gr (.int .i64 0) rfl (ld3 (Zal hn9 0 rfl)),rfl,?_⟩
  exact hIH.out.bel.grown B77 hIH.out.bel.size (fun k e=>by cases e;omega)
theorem ZnA (t:Tr)(P:Nat->Prop)(x:Value)(w:World)(T:TrV w P x t)(hf:¬ ZcF t)(hsz:szT t<=4096)(hdp:dpT t<=128) :
  Calls Tryz.prog 76 #[x] w fun e w'=>e=.returned (.int .i64 0)/\Below w.heap.size w w':=callsIn_wide.1 (size_no 5 (by omega) t P x w T hf hsz hdp)
theorem Zj7 (t:Tr)(P:Nat->Prop)(x:Value)(w:World)(T:TrV w P x t)(hf:¬ ZcF t)(hsz:szT t<=4096)(hdp:dpT t<=128) :
  Calls Tryz.prog 34 #[x] w fun e w'=>e=.returned (.bool false)/\Below w.heap.size w w':=by
 have H:=St.start Nope w
 have SZ:=Zaa (fun w' T=>ZnA t P x w' T hf hsz hdp)
 have hT:Hid (TrV w P x t):=T
 obtain⟨va,vn,vc,rfl⟩:=T.val
 clear T
 replace hf:=Zaa hf
 go_enter Tryz.func34,Tryz.ntmps34
 go_wp2_with (first|((with_reducible refine Zar 27 ?_);refine ZaM H rfl ?_;clear H;intro g w' H q1 q2)|((with_reducible refine Zac 27 ?_);refine Zas 0 H rfl rfl ?_))
 refine (SZ.out _ (hT.out.kept (fun b _ hb=>H.below.block b hb))).mono ?_
 rintro e w1 ⟨rfl,B1⟩
 go_wp2_with fail
 go_ret
 exact⟨rfl,H.below.trans (B1.mono H.below.size)⟩
end
namespace G
open Go.RowKit Go.Shelf
attribute [local go_sem] Oper.semAt_some
theorem ZfP {fn:Func}{p q:Tmp}{t1:TypeId}(h:fn.results=#[.cell p t1,.tmp q])(tmps:Array Value)(w:World)(g1:Nat)(x:Value)
  (hp:tmps.getD p undef=.pointer (some ⟨g1,0,none⟩)) (hl:(loadVar t1 ⟨g1,0,none⟩).run Tryz.prog w=.ok x w) :
  (results fn tmps).run Tryz.prog w=.ok (.tuple #[x,tmps.getD q undef]) w:=by
 have hp':tmps[p]?.getD undef=.pointer (some ⟨g1,0,none⟩):=by simpa using hp
 simp [results,h,hp',asAddr,hl]
set_option maxRecDepth 100000 in
theorem Zj8 (t:Tr)(P:Nat->Prop)(x:Value)(w:World)(T:TrV w P x t)(hf:ZcF t)(ho:okT t)(hsz:szT t<=99)(hdp:dpT t<=128) :
  Calls Tryz.prog 10 #[x] w fun e w'=>∃ z,e=.returned (.tuple #[z,.int .i64 0])/\QyV w' (fun b=>w.heap.size<=b) z (ptT t).asked/\Below w.heap.size w w':=by
 have H:=St.start Nope w
 have TH:Hid (TrV w P x t):=T
 have CK:=Zaa (fun (w':World) (hb:Below w.heap.size w w')=>YtnffbmipllhjdaaGreatDoor.check_any t P x w' (TH.out.kept (fun b _ hl=>hb.block b hl)) hf (by omega) hdp)
 have PO:=Zaa (fun (w':World) (hb:Below w.heap.size w w')=>Zk1 (szT t) t (Nat.le_refl _) P x w' (TH.out.kept (fun b _ hl=>hb.block b hl)) hf ho hsz)
 have AK:=Zaa (fun (w':World) (B:Nat) (y:Value) (h:PaV w' (fun b=>B<=b) y (ptT t))=>ZiU (ptT t) (ptT_bd t) (fun b=>B<=b/\b<w'.heap.size) y w' (h.mono (fun b hb hp=>⟨hp,hb⟩)) (fun b h=>h.2))
 obtain⟨va,vn,vc,rfl⟩:=T.val
 clear T hf ho
 go_enter Tryz.func10,Tryz.ntmps10
 go_wp2_with (first|((with_reducible refine Zar 27 ?_);refine ZaM H rfl ?_;clear H;intro g1 w1 H q1 q2)|((with_reducible refine Zae 30 ?_);refine Zbc H ?_;clear H;intro g2 w2 H q3 q4;have hb2:=H.below)|((with_reducible refine Zac 27 ?_);refine Zas 1 H rfl rfl ?_)|(go_at_call 34;refine (CK.out _ hb2).mono ?_))
 rintro e w3 ⟨rfl,B3⟩
 have H3:=H.call B3 (Nat.le_refl _)
 have hb3:=H3.below
 have hg2:=H.lti 0 rfl
 clear H B3 CK
 go_wp2_with (first|((with_reducible refine Zac 27 ?_);refine Zas 1 H3 rfl rfl ?_)|(go_at_call 35;refine (PO.out _ hb3).mono ?_))
 rintro e w4 ⟨y,rfl,T4,B4⟩
 have H4:=H3.call B4 (Nat.le_refl _)
 have AK4:=Zaa (AK.out w4 _ y T4)
 have s34:=B4.size
 have hg23:g2<w3.heap.size:=H3.lti 0 rfl
 clear H3 B4 PO AK T4
 go_wp2_with (go_at_call 36;refine AK4.out.mono ?_)
 rintro e w5 ⟨z,rfl,hq,B5⟩
 have H5:=H4.call B5 (Nat.le_refl _)
 have h5g:=Zaa (H5.get 0 rfl)
 have h5b:=Zaa H5.below
 have sh:=hb3.size
 obtain⟨xa,xm,xc,rfl⟩:=hq.slice
 have hqh:=Zaa (hq.mono (P':=fun b=>w3.heap.size<=b) (fun b _ hb=>by
  rcases hb with h|h
  ·exact h.1
  ·omega))
 clear H4 H5 hq B5 AK4
 go_wp2_with (first|((with_reducible refine Zab 30 ?_);refine ZaQ 30 (v:=qV (ptT t).asked.op (ptT t).asked.tx (.slice xa xm xc)) rfl rfl (ZcB h5g.out rfl) ?_))
 refine bodyPost_ret (ZfP rfl _ _ _ _ rfl (ZaY (setRow_heap _ _ _ _ 30 (0,0) h5g.out))) rfl ?_
 obtain⟨r1,r2⟩:=ret30 (w1:=w) h5g.out h5b.out q3 hqh.out (fun h=>by omega)
 exact⟨_,rfl,r1.mono (fun b _ hb=>by have h:w3.heap.size<=b:=hb;show w.heap.size<=b;omega),r2⟩
set_option maxRecDepth 100000 in
theorem text_any (q:Qy)(hsz:q.sz<=4096)(P:Nat->Prop)(x:Value)(w:World)(T:QyV w P x q) :
  Calls Tryz.prog 19 #[x] w fun e w'=>∃ t:Tx,e=.returned (encStr t)/\((ZkU q/\t=q.tell)\/(¬ ZkU q/\t=[]))/\Below w.heap.size w w':=by
 have H:=St.start Nope w
 have TH:Hid (QyV w P x q):=T
 have CK:=Zaa (fun (w':World) (hb:Below w.heap.size w w')=>check_any q P x w' (TH.out.kept (fun b _ hl=>hb.block b hl)) hsz)
 obtain⟨va,m0,c0,rfl⟩:=T.slice
 clear T
 go_enter Tryz.func19,Tryz.ntmps19
 go_wp2_with (first|((with_reducible refine Zar 30 ?_);refine ZaK H rfl ?_;clear H;intro g1 w1 H q1 q2;have hb1:=H.below)|((with_reducible refine Zac 30 ?_);refine Zcd 0 H rfl rfl ?_)|(go_at_call 17;refine (CK.out _ hb1).mono ?_))
 rintro e w2 ⟨r,rfl,hr,B2⟩
 have H2:=H.call B2 (Nat.le_refl _)
 have hb2:=H2.below
 clear H CK B2
 rcases hr with⟨hyes,rfl⟩|⟨hbad,rfl⟩
 ·have TO:=Zaa (ZjR q P (qV q.op q.tx (.slice va m0 c0)) w2 (TH.out.kept (fun b _ hl=>hb2.block b hl)) (by have:=Zm6 (chk_ok hyes);omega))
  replace hyes:=Zaa hyes
  go_wp2_with (first|((with_reducible refine Zac 30 ?_);refine Zcd 0 H2 rfl rfl ?_)|(go_at_call 49;refine TO.out.mono ?_))
  rintro e w3 ⟨rfl,B3⟩
  have b3:=Zaa (hb2.trans (B3.mono hb2.size))
  clear B3 TO
  go_wp2
  go_ret
  exact⟨_,rfl,.inl ⟨hyes.out,rfl⟩,b3.out⟩
 ·replace hbad:=Zaa hbad
  have b2:=Zaa hb2
  clear H2 hb2
  go_wp2
  go_ret
  exact⟨[],rfl,.inr ⟨hbad.out,rfl⟩,b2.out⟩
end G
namespace G
open Go.RowKit Go.Shelf
def insT (x:Tx):List Tx->List Tx
 | []=>[x]
 | y::r=>if x<=y then x::y::r else y::insT x r
def isrt:List Tx->List Tx
 | []=>[]
 | x::r=>insT x (isrt r)
theorem mem_insT {x z:Tx}:∀ {l:List Tx},z ∈ insT x l↔z=x\/z ∈ l
 | []=>by simp [insT]
 | y::r=>by
  unfold insT
  split
  ·simp
  ·rw [List.mem_cons,mem_insT (l:=r),List.mem_cons]
   exact⟨fun h=>h.elim (fun h=>.inr (.inl h)) (fun h=>h.elim .inl (fun h=>.inr (.inr h))),fun h=>h.elim (fun h=>.inr (.inl h)) (fun h=>h.elim .inl (fun h=>.inr (.inr h)))⟩
theorem Zi8 {a b:Tx}(h:a<=b)(hn:a≠b):a<b:=by
 rcases List.le_iff_lt_or_eq.1 h with h|h
 ·exact h
 ·exact absurd h hn
theorem Zj9 {x:Tx}:∀ {l:List Tx},Asc l->x ∉ l->Asc (insT x l)
 | [],_,_=>by simp [insT,Asc]
 | y::r,h,hx=>by
  have h2:=List.pairwise_cons.1 h
  unfold insT
  split
  ·rename_i hle
   refine List.pairwise_cons.2 ⟨fun z hz=>?_,h⟩
   have hxy:=Zi8 hle (fun e=>hx (by simp [e]))
   rcases List.mem_cons.1 hz with rfl|hz
   ·exact hxy
   ·exact List.lt_trans hxy (h2.1 z hz)
  ·rename_i hle
   refine List.pairwise_cons.2 ⟨fun z hz=>?_,Zj9 h2.2 (fun e=>hx (by simp [e]))⟩
   rcases mem_insT.1 hz with rfl|hz
   ·exact List.not_le.1 hle
   ·exact h2.1 z hz
theorem mem_isrt {z:Tx}:∀ {l:List Tx},z ∈ isrt l↔z ∈ l
 | []=>Iff.rfl
 | x::r=>by rw [isrt,mem_insT,mem_isrt (l:=r),List.mem_cons]
theorem Zka:∀ {l:List Tx},l.Nodup->Asc (isrt l)
 | [],_=>by simp [isrt,Asc]
 | x::r,h=>by
  have h2:=List.nodup_cons.1 h
  exact Zj9 (Zka h2.2) (fun e=>h2.1 (mem_isrt.1 e))
def upsC (l:List Tx):List Tx:=isrt (dis [] l)
theorem ups_c:ups=upsC:=funext fun l=>Zit (Ziu l) (Zka (Zhd l [])) (fun x=>by rw [mem_ups];unfold upsC;rw [mem_isrt,Zdr];simp)
def ZnB (s:Tx):List Tx:=upsC (Zbq s)
theorem grams_c:ZaE=ZnB:=funext fun s=>by unfold ZaE ZnB;rw [ups_c]
def bndC (l:List Tx):Option (List Tx):=if (dis [] l).length<=32/\(∀ t ∈ l,t.length<=32) then some (upsC l) else none
theorem bnd_c:bnd=bndC:=funext fun l=>by unfold bnd bndC;rw [ups_c]
def Zkb (ts:List Tx):Qy:=tg 4 (ts.map (fun s=>tg 3 ((ZnB s).map Zb1)))
theorem ZnC:Zba=Zkb:=funext fun l=>by unfold Zba Zkb;rw [grams_c]
def Pt.askedC:Pt->Qy
 | .told ts=>Zkb ts
 | .ask q=>q
theorem Zi9:Pt.asked=Pt.askedC:=funext fun p=>by cases p <;> simp [Pt.asked,Pt.askedC,ZnC]
def ZfQ:List Tx->List Pt->List Tx × Nat
 | ts,[]=>(ts,0)
 | ts,.ask _::_=>(ts,0)
 | ts,.told p::r=>match bndC (Zbl ts p) with
  | none=>(ts,0)
  | some m=>((ZfQ m r).1,(ZfQ m r).2+1)
theorem ZnD:∀ (l:List Pt)(ts:List Tx),Zbr ts l=ZfQ ts l
 | [],ts=>rfl
 | .ask q::r,ts=>rfl
 | .told p::r,ts=>by
  cases h:bnd (Zbl ts p) with
  | none=>rw [Zd6 h];unfold ZfQ;rw [<- bnd_c,h]
  | some m=>rw [Zdc h];unfold ZfQ;rw [<- bnd_c,h];simp only [];rw [ZnD r m]
def Zck (l:List Pt):List Tx × Nat:=ZfQ [[]] l
theorem Ze9:Zaw=Zck:=funext fun l=>ZnD l _
def Zfa:Nat->List Pt->List Qy
 | 0,_=>[]
 | _+1,[]=>[]
 | f+1,p::r=>if (Zck (p::r)).2=0 then p.q::Zfa f r else Zkb (Zck (p::r)).1::Zfa f ((p::r).drop (Zck (p::r)).2)
theorem ZgD:∀ (f:Nat)(l:List Pt),ZaT f l=Zfa f l
 | 0,_=>rfl
 | _+1,[]=>rfl
 | f+1,p::r=>by unfold ZaT Zfa;rw [Ze9,ZnC,ZgD f,ZgD f]
def ZnE (l:List Pt):Pt:=if (Zck l).2=l.length then .told (Zck l).1 else .ask (tg 3 (Zfa l.length l))
theorem allOf_c:Zdf=ZnE:=funext fun l=>by unfold Zdf ZnE;rw [Ze9,ZgD]
def ZnF (l:List Pt):Pt:=match (Zbb l).bind bndC with
 | some ts=>.told ts
 | none=>.ask (tg 4 (l.map Pt.askedC))
theorem oneOf_c:Zdg=ZnF:=funext fun l=>by unfold Zdg ZnF;rw [bnd_c,Zi9];rfl
def Zfb (p:Pt)(mn mx:Int):Pt :=
 if mn=mx/\(Zck (List.replicate mn.toNat p)).2=mn.toNat then .told (Zck (List.replicate mn.toNat p)).1
 else if mn=0 then .ask allQ else .ask p.askedC
theorem Zk2:ZaV=Zfb:=funext fun p=>funext fun mn=>funext fun mx=>by unfold ZaV Zfb;rw [Ze9,Zi9]
def ptNC (n:Nd)(ps:List Pt):Pt:=if n.k=2 then ZnE ps else if n.k=3 then ZnF ps else if n.k=4 then Zfb (ps.headD (.ask allQ)) n.mn n.mx else ZcW n.s
theorem ptN_c:ptN=ptNC:=funext fun n=>funext fun ps=>by unfold ptN ptNC;rw [allOf_c,oneOf_c,Zk2]
def ptFC:Fo->List Pt
 | .nil=>[]
 | .cons n k r=>ptNC n (ptFC k)::ptFC r
theorem ptF_c:∀ f:Fo,ptF f=ptFC f
 | .nil=>rfl
 | .cons n k r=>by unfold ptF ptFC;rw [ptN_c,ptF_c k,ptF_c r]
def ptTC (t:Tr):Pt:=ptNC t.1 (ptFC t.2)
theorem ptT_c (t:Tr):ptT t=ptTC t:=by unfold ptT ptTC;rw [ptN_c,ptF_c]
theorem askedT_c (t:Tr):(ptT t).asked=(ptTC t).askedC:=by rw [ptT_c,Zi9]
def px1:ByteArray:=⟨#[97,98,99,100,124,120,121,122]⟩
def px2:ByteArray:=⟨#[97,98,42]⟩
def px3:ByteArray:=⟨#[40,97,124,98,41,99,100,46,101,102,103]⟩
end G
namespace G
open Go.RowKit Go.Shelf
attribute [local go_sem] Oper.semAt_some
def okSB (s:S4):Bool:=(List.range 4).all (fun k=>decide (0<=s.get k/\s.get k<18446744073709551616))
theorem okS_b {s:S4}(h:okSB s=true):OkS s:=fun k hk=>of_decide_eq_true (List.all_eq_true.1 h k (by simpa using hk))
def okFB:Fo->Bool
 | .nil=>true
 | .cons n k r=>okSB n.s && okFB k && okFB r
theorem okF_b:∀ {f:Fo},okFB f=true->okF f
 | .nil,_=>trivial
 | .cons n k r,h=>by
  simp only [okFB,Bool.and_eq_true] at h
  exact⟨okS_b h.1.1,okF_b h.1.2,okF_b h.2⟩
def okTB (t:Tr):Bool:=okSB t.1.s && okFB t.2
theorem okT_b {t:Tr}(h:okTB t=true):okT t:=by
 simp only [okTB,Bool.and_eq_true] at h
 exact⟨okS_b h.1,okF_b h.2⟩
def fitQB (o:Int)(t:Tx)(m:Nat):Bool:=(decide (o=0) || decide (o=1)) && decide (t=[]) && decide (m=0) || decide (o=2) && decide (t.length=3) && decide (m=0) || (decide (o=3) || decide (o=4)) && decide (t=[])
theorem fitQ_b {o:Int}{t:Tx}{m:Nat}:fitQB o t m=true↔fitQ o t m:=by
 unfold fitQB fitQ
 simp only [Bool.or_eq_true,Bool.and_eq_true,decide_eq_true_eq,and_assoc,or_assoc]
def chkB (q:Qy):Bool:=(Zh1 1 (⟨q.op,q.tx⟩,q.l)).all (fun y=>decide (y.1<=8) && fitQB y.2.1.o y.2.1.t y.2.2)
theorem chk_b {q:Qy}:chkB q=true↔ZkU q:=by
 unfold chkB ZkU
 rw [List.all_eq_true]
 refine forall_congr' fun y=>imp_congr_right fun _=>?_
 rw [Bool.and_eq_true,decide_eq_true_eq,fitQ_b]
def Zk3 (p:ByteArray)(out:Tx):Bool:=match Zdh p with
 | .ok t=>okTB t && decide (szT t<=99) && chkB (ptTC t).askedC && decide ((ptTC t).askedC.sz<=4096) && decide ((ptTC t).askedC.tell=out)
 | _=>false
theorem lookX_ok {p:ByteArray}{out:Tx}(h:Zk3 p out=true):∃ t,Zdh p=.ok t/\okT t/\szT t<=99/\ZkU (ptT t).asked/\(ptT t).asked.sz<=4096/\(ptT t).asked.tell=out:=by
 unfold Zk3 at h
 cases hp:Zdh p with
 | error e=>rw [hp] at h;cases h
 | ok t =>
  rw [hp] at h
  simp only [Bool.and_eq_true,decide_eq_true_eq] at h
  refine⟨t,rfl,?_⟩
  rw [askedT_c]
  exact⟨okT_b h.1.1.1.1,h.1.1.1.2,chk_b.1 h.1.1.2,h.1.2,h.2⟩
def out1:Tx:=[91,40,124,97,98,99,124,32,124,98,99,100,124,41,32,124,120,121,122,124,93]
def out2:Tx:=[42]
def out3:Tx:=[40,91,124,97,99,100,124,32,124,98,99,100,124,93,32,124,101,102,103,124,41]
set_option maxRecDepth 100000 in
theorem look1:Zk3 px1 out1=true:=by decide +kernel
set_option maxRecDepth 100000 in
theorem look2:Zk3 px2 out2=true:=by decide +kernel
set_option maxRecDepth 100000 in
theorem look3:Zk3 px3 out3=true:=by decide +kernel
set_option maxRecDepth 100000 in
theorem Zfc (s:ByteArray)(out:Tx)(h:Zk3 s out=true)(hs:s.size<=40)(w:World)(hT:Tab w) :
  Calls Tryz.prog 51 #[.string s] w fun e w'=>e=.returned (encStr out)/\Below w.heap.size w w':=by
 obtain⟨t,hp,ho,hz,hc,hq,htl⟩:=lookX_ok h
 have hg:=Zkl s
 rw [hp] at hg
 obtain⟨hf,_,hd⟩:=hg
 have PA:=Zaa (ZlR s w hT)
 replace ho:=Zaa ho
 replace hc:=Zaa hc
 replace hf:=Zaa hf
 clear h
 go_enter Tryz.func51,Tryz.ntmps51
 go_wp2_with (go_at_call 31;refine PA.out.mono ?_)
 intro e w1 hR
 obtain⟨B1,⟨h1,_⟩|⟨_,⟨p,h2,_⟩|⟨x,t',h2,he,T⟩⟩⟩:=hR
 ·omega
 ·rw [hp] at h2;cases h2
 ·rw [hp] at h2
  cases h2
  subst he
  obtain⟨va,vn,vc,rfl⟩:=T.val
  have TH:=Zaa T
  have H:=St.start Nope w1
  have FR:=Zaa (fun (w':World) (hb:Below w1.heap.size w1 w')=>Zj8 t _ _ w' (TH.out.kept (fun b _ hl=>hb.block b hl)) hf.out ho.out hz (by omega))
  replace hp:=Zaa hp
  clear T PA
  go_wp2_with (first|((with_reducible refine Zae 27 ?_);refine Zap H ?_;clear H;intro g1 w2 H q1 q2)|((with_reducible refine Zab 27 ?_);refine Zao 0 H rfl rfl rfl rfl ?_;clear H;intro w3 H;have hb3:=H.below)|((with_reducible refine Zac 27 ?_);refine Zas 0 H rfl rfl ?_)|(go_at_call 10;refine (FR.out _ hb3).mono ?_))
  rintro e w4 ⟨z,rfl,hqv,B4⟩
  obtain⟨xa,xm,xc,rfl⟩:=hqv.slice
  have H4:=St.start Nope w4
  have b4:=Zaa (hb3.trans (B4.mono hb3.size))
  have TX:=Zaa (fun (w':World) (hb:Below w4.heap.size w4 w')=>text_any (ptT t).asked hq (fun b=>w3.heap.size<=b/\b<w4.heap.size) _ w' ((hqv.mono (fun b hb hp=>⟨hp,hb⟩)).kept (fun b hp _=>hb.block b hp.2)))
  clear H B4 FR hqv
  go_wp2_with (first|((with_reducible refine Zae 30 ?_);refine Zbc H4 ?_;clear H4;intro g5 w5 H4 q3 q4)|((with_reducible refine Zab 30 ?_);refine ZbY 0 H4 rfl rfl rfl rfl ?_;clear H4;intro w6 H4;have hb6:=H4.below)|((with_reducible refine Zac 30 ?_);refine Zcd 0 H4 rfl rfl ?_)|(go_at_call 19;refine (TX.out _ hb6).mono ?_))
  rintro e w7 ⟨tt,rfl,hr,B7⟩
  have b7:=Zaa (B1.trans ((b4.out.trans ((hb6.trans (B7.mono hb6.size)).mono b4.out.size)).mono B1.size))
  have ett:Hid (tt=out):=by
   rcases hr with⟨_,e⟩|⟨e,_⟩
   ·exact e.trans htl
   ·exact absurd hc.out e
  clear H4 B7 TX hr B1
  go_wp2
  go_ret
  exact⟨by rw [ett.out];rfl,b7.out⟩
set_option maxRecDepth 100000 in
theorem ZnG (w:World)(hT:Tab w):Calls Tryz.prog 21 #[] w fun e w'=>e=.returned (.bool true)/\Below w.heap.size w w':=by
 have F1:=Zaa (Zfc px1 out1 look1 (by decide) w hT)
 have hTh:=Zaa hT
 clear hT
 go_enter Tryz.func21,Tryz.ntmps21
 go_wp2_with (go_at_call 51;refine F1.out.mono ?_)
 rintro e w1 ⟨rfl,B1⟩
 have F2:=Zaa (Zfc px2 out2 look2 (by decide) w1 (hTh.out.below B1))
 replace B1:=Zaa B1
 go_wp2_with (go_at_call 51;refine F2.out.mono ?_)
 rintro e w2 ⟨rfl,B2⟩
 have B12:Hid (Below w.heap.size w w2):=B1.out.trans (B2.mono B1.out.size)
 have F3:=Zaa (Zfc px3 out3 look3 (by decide) w2 (hTh.out.below B12.out))
 clear B2 F2
 go_wp2_with (go_at_call 51;refine F3.out.mono ?_)
 rintro e w3 ⟨rfl,B3⟩
 have B13:Hid (Below w.heap.size w w3):=B12.out.trans (B3.mono B12.out.size)
 clear B3 F3
 go_wp2
 go_ret
 exact⟨rfl,B13.out⟩
end G
namespace G
open Go.RowKit
section
variable {w w':World}{ops:Array Oper}{o:Oper}{a:Act}{Q:Exit->Act->World->Prop}{K:Act->World->Prop}{E:Prop}{dst:Option Nat}{x y:Operand}{ty:TypeId}{pos:String}{after:Array Edge}
theorem ZbB {v:Value}(hgd:o.guard=none)(hr:(execOp a.eval o).run Tryz.prog w=.ok (.value v) w')(h:K (a.put o.dst v) w'):if Region.wanted o (yielded ops a.tmps)=true then Oper.wp Tryz.prog o a w K Q else E:=by
 have hw:Region.wanted o (yielded ops a.tmps)=true:=by simp [Region.wanted,hgd]
 rw [if_pos hw]
 unfold Oper.wp
 rw [hr]
 exact h
theorem ZcY (hgd:o.guard=none)(hd:o.dst=none)(hr:(execOp a.eval o).run Tryz.prog w=.ok .skip w')(h:K a w'):if Region.wanted o (yielded ops a.tmps)=true then Oper.wp Tryz.prog o a w K Q else E:=by
 have hw:Region.wanted o (yielded ops a.tmps)=true:=by simp [Region.wanted,hgd]
 rw [if_pos hw]
 unfold Oper.wp
 rw [hr]
 unfold Oper.upon
 rw [hd]
 exact h
theorem ZcZ (ev:Operand->Value)(x:Operand)(ty:TypeId)(pos:String)(k:Int)(s:S4)(v:Value)(mn mx:Int)(hx:ev x=reV k s v mn mx)(w:World):(execOp ev ⟨dst,.buildSlice 25 1 #[(0,x)],ty,pos,after,none⟩).run Tryz.prog w=.ok (.value (.slice (some ⟨w.heap.size,0,none⟩) 1 1)) (w.alloc (.cells (reA k s v mn mx) 27)):=by
 unfold execOp
 simp only [List.map_toArray,List.map_cons,List.map_nil,hx,Sem.run_bind,ZfY,Result.andThen_ok,Sem.run_pure]
theorem Zct (ev:Operand->Value)(s x:Operand)(pos:String){v1 v2 v':Value}(hs:ev s=v1)(hx:ev x=v2)(hr:(Builtin.append_ #[25,25] 25 #[v1,v2]).run Tryz.prog w=.ok v' w'):(execOp ev ⟨dst,.call { callee:=.builtin .append,args:=#[s,x],argTypes:=#[25,25] },25,pos,after,none⟩).run Tryz.prog w=.ok (.value v') w':=by
 simp [execOp,resolve,invoke,builtin,hs,hx,hr,Result.andThen]
theorem Zc0 (ev:Operand->Value){ad:Addr}{v:Value}(hx:ev x=.pointer (some ad))(hy:ev y=v)(hr:(storeVar 25 ad v).run Tryz.prog w=.ok () w'):(execOp ev ⟨none,.store 25 x y,ty,pos,after,none⟩).run Tryz.prog w=.ok .skip w':=by
 unfold execOp
 simp only [hx,hy,Instr.storeAt,Instr.sureAddr,Sem.run_bind,Sem.run_pure,Result.andThen_ok,hr]
theorem Zfd (ev:Operand->Value){ad:Addr}{v:Value}(hx:ev x=.pointer (some ad))(hr:(loadVar 27 ad).run Tryz.prog w=.ok v w):(execOp ev ⟨dst,.load 27 x,ty,pos,after,none⟩).run Tryz.prog w=.ok (.value v) w:=by
 unfold execOp
 simp only [hx,Instr.loadAt,Instr.sureAddr,Sem.run_bind,Sem.run_pure,Result.andThen_ok,hr]
end
set_option maxRecDepth 100000 in
theorem reg33_7 (w:World)(g3 g7 gb b off i n cc vn vc:Nat)(va:Option Addr)(dd d1:Int)(k1:Int)(s1:S4)(l1:Value)(mn1 mx1:Int)
  (c7:w.cell? ⟨g7,5,none⟩=some (.slice va vn vc)) (c3:w.cell? ⟨g3,5,none⟩=some (.slice (some ⟨b,off,none⟩) n cc)) (hld:(loadVar 27 ⟨b,off+i * 8,none⟩).run Tryz.prog w.drew=.ok (reV k1 s1 l1 mn1 mx1) w.drew) (hin:(i:Int)<(n:Int)) (hw1:dd - 1=d1) (hw2:IntKind.i64.wrap d1=d1) (hw3:wrap64 d1=d1)
  (u0 u4 u5 u6 u9 u10 u11 u12 u13 u14 u15 u16 u17 u18 u19 u20 u21 u22 u23 u24 u25 u26 u27 u28 u29 u30 u31 u32 u33 u34 u35 u36 u37 u38 u39 u40 u41 u42 u43 u44 u45 u46 u47:Value) (Q:Exit->Act->World->Prop)
  (h:Calls Tryz.prog 33 #[reV k1 s1 l1 mn1 mx1,.int .i64 d1,.pointer (some ⟨gb,0,none⟩)] w.drew fun e w4=>∃ k4 s4 l4 mn4 mx4 v2 w5 w6,e=.returned (reV k4 s4 l4 mn4 mx4)/\w4.cell? ⟨g7,5,none⟩=some (.slice va vn vc)/\(w4.alloc (.cells (reA k4 s4 l4 mn4 mx4) 27)).cell? ⟨g7,5,none⟩=some (.slice va vn vc)/\(Builtin.append_ #[25,25] 25 #[.slice va vn vc,.slice (some ⟨w4.heap.size,0,none⟩) 1 1]).run Tryz.prog (w4.alloc (.cells (reA k4 s4 l4 mn4 mx4) 27))=.ok v2 w5/\(storeVar 25 ⟨g7,5,none⟩ v2).run Tryz.prog w5=.ok () w6/\Q .normal { tmps:=(List.toArray ((u0::.int .i64 dd::.pointer (some ⟨gb,0,none⟩)::.pointer (some ⟨g3,0,none⟩)::u4::u5::u6::.pointer (some ⟨g7,0,none⟩)::.int .i64 (i:Int)::u9::u10::u11::u12::u13::u14::u15::u16::u17::u18::u19::u20::u21::u22::u23::u24::u25::u26::u27::u28::u29::u30::u31::u32::.pointer (some ⟨g7,5,none⟩)::.slice va vn vc::.pointer (some ⟨g3,5,none⟩)::.slice (some ⟨b,off,none⟩) n cc::.int .i64 (i:Int)::.pointer (some ⟨b,off+i * 8,none⟩)::reV k1 s1 l1 mn1 mx1::.int .i64 dd::.int .i64 d1::.pointer (some ⟨gb,0,none⟩)::reV k4 s4 l4 mn4 mx4::.slice (some ⟨w4.heap.size,0,none⟩) 1 1::v2::.pointer (some ⟨g7,5,none⟩)::u47::[]):List Value)),defers:=[] } w6) :
  (Code.region 7 #[⟨some 33,.fieldAddr 27 (.tmp 7) 2,0,"law.go:53",#[],none⟩,⟨some 34,.load 25 (.tmp 33),25,"law.go:53",#[⟨0,.data⟩],none⟩,⟨some 35,.fieldAddr 27 (.tmp 3) 2,0,"law.go:53",#[],none⟩,⟨some 36,.load 25 (.tmp 35),25,"law.go:53",#[⟨2,.data⟩],none⟩,⟨some 37,.move (.tmp 8),3,"law.go:53",#[],none⟩,⟨some 38,.indexAddr 25 (.tmp 36) (.tmp 37),0,"law.go:53",#[⟨3,.data⟩,⟨4,.data⟩],none⟩,⟨some 39,.load 27 (.tmp 38),27,"law.go:53",#[⟨5,.data⟩],none⟩,⟨some 40,.move (.tmp 1),3,"law.go:53",#[],none⟩,⟨some 41,.binOp .sub 3 (.tmp 40) (.const (.int .i64 1)) 3,3,"law.go:53",#[⟨7,.data⟩],none⟩,⟨some 42,.move (.tmp 2),33,"law.go:53",#[],none⟩,⟨some 43,.call { callee:=.value (.func 33),args:=#[.tmp 39,.tmp 41,.tmp 42],argTypes:=#[27,3,33] },27,"law.go:53",#[⟨6,.data⟩,⟨8,.data⟩,⟨9,.data⟩],none⟩,⟨some 44,.buildSlice 25 1 #[(0,.tmp 43)],25,"law.go:53",#[⟨10,.data⟩],none⟩,⟨some 45,.call { callee:=.builtin .append,args:=#[.tmp 34,.tmp 44],argTypes:=#[25,25] },25,"law.go:53",#[⟨1,.data⟩,⟨11,.data⟩,⟨10,.chain⟩],none⟩,⟨some 46,.fieldAddr 27 (.tmp 7) 2,0,"law.go:53",#[⟨0,.phase⟩,⟨1,.phase⟩,⟨2,.phase⟩,⟨3,.phase⟩,⟨4,.phase⟩,⟨5,.phase⟩,⟨6,.phase⟩,⟨7,.phase⟩,⟨8,.phase⟩,⟨9,.phase⟩,⟨10,.phase⟩,⟨11,.phase⟩,⟨12,.phase⟩],none⟩,⟨none,.store 25 (.tmp 46) (.tmp 45),0,"law.go:53",#[⟨13,.data⟩,⟨12,.data⟩,⟨12,.chain⟩,⟨0,.phase⟩,⟨1,.phase⟩,⟨2,.phase⟩,⟨3,.phase⟩,⟨4,.phase⟩,⟨5,.phase⟩,⟨6,.phase⟩,⟨7,.phase⟩,⟨8,.phase⟩,⟨9,.phase⟩,⟨10,.phase⟩,⟨11,.phase⟩,⟨12,.phase⟩],none⟩] true).wp Tryz.prog Q { tmps:=(List.toArray ((u0::.int .i64 dd::.pointer (some ⟨gb,0,none⟩)::.pointer (some ⟨g3,0,none⟩)::u4::u5::u6::.pointer (some ⟨g7,0,none⟩)::.int .i64 (i:Int)::u9::u10::u11::u12::u13::u14::u15::u16::u17::u18::u19::u20::u21::u22::u23::u24::u25::u26::u27::u28::u29::u30::u31::u32::u33::u34::u35::u36::u37::u38::u39::u40::u41::u42::u43::u44::u45::u46::u47::[]):List Value)),defers:=[] } w:=by
 replace h:=Zaa h
 refine wp_region_noPanic ?_
 refine wp_region_any (by kernel_rfl) ?_
 change wpAny _ _ _ _ _ _ _ (World.drew w)
 refine wpAny_take (i:=0)  (v:=?_) rfl (by kernel_rfl) (by kernel_rfl) (by kernel_rfl) (fun _ _ _ h=>h) (Or.inl ⟨by rfl,?_⟩) ?_
 rotate_left
 ·intro w'
  go_simp
  try with_reducible rfl
 try simp only [Act.put,PuA]
 refine wpAny_take (i:=2)  (v:=?_) rfl (by kernel_rfl) (by kernel_rfl) (by kernel_rfl) (fun _ _ _ h=>h) (Or.inl ⟨by rfl,?_⟩) ?_
 rotate_left
 ·intro w'
  go_simp
  try with_reducible rfl
 try simp only [Act.put,PuA]
 refine wpAny_take (i:=4)  (v:=?_) rfl (by kernel_rfl) (by kernel_rfl) (by kernel_rfl) (fun _ _ _ h=>h) (Or.inl ⟨by rfl,?_⟩) ?_
 rotate_left
 ·intro w'
  go_simp
  try with_reducible rfl
 try simp only [Act.put,PuA]
 refine wpAny_take (i:=7)  (v:=?_) rfl (by kernel_rfl) (by kernel_rfl) (by kernel_rfl) (fun _ _ _ h=>h) (Or.inl ⟨by rfl,?_⟩) ?_
 rotate_left
 ·intro w'
  go_simp
  try with_reducible rfl
 try simp only [Act.put,PuA]
 refine wpAny_take (i:=8)  (v:=?_) rfl (by kernel_rfl) (by kernel_rfl) (by kernel_rfl) (fun _ _ _ h=>h) (Or.inl ⟨by rfl,?_⟩) ?_
 rotate_left
 ·intro w'
  go_simp
  try with_reducible rfl
 try simp only [Act.put,PuA]
 refine wpAny_take (i:=9)  (v:=?_) rfl (by kernel_rfl) (by kernel_rfl) (by kernel_rfl) (fun _ _ _ h=>h) (Or.inl ⟨by rfl,?_⟩) ?_
 rotate_left
 ·intro w'
  go_simp
  try with_reducible rfl
 try simp only [Act.put,PuA]
 refine wpAny_ready (rs:=[1,3]) (by kernel_rfl) (by simp) ?_
 refine (AllReady.cons rfl (fun K1 hK1=>?_) (AllReady.cons rfl (fun K3 hK3=>?_) AllReady.nil))
 ·go_simp
  refine hK1 _ _ ?_
  clear hK1 K1
  try simp only [Act.put,PuA]
  refine wpAny_ready (rs:=[3]) (by kernel_rfl) (by simp) ?_
  refine (AllReady.cons rfl (fun K3 hK3=>?_) AllReady.nil)
  go_simp
  refine hK3 _ _ ?_
  clear hK3 K3
  try simp only [Act.put,PuA]
  refine wpAny_take (i:=5)  (v:=?_) rfl (by kernel_rfl) (by kernel_rfl) (by kernel_rfl) (fun _ _ _ h=>h) (Or.inl ⟨by rfl,?_⟩) ?_
  rotate_left
  ·intro w'
   go_simp
   try with_reducible rfl
  try simp only [Act.put,PuA]
  refine wpAny_ready (rs:=[6]) (by kernel_rfl) (by simp) ?_
  refine (AllReady.cons rfl (fun K6 hK6=>?_) AllReady.nil)
  refine ZbB rfl (Zfd _ rfl hld) ?_
  refine hK6 _ _ ?_
  clear hK6 K6
  try simp only [Act.put,PuA]
  refine wpAny_ready (rs:=[10]) (by kernel_rfl) (by simp) ?_
  refine (AllReady.cons rfl (fun K10 hK10=>?_) AllReady.nil)
  go_simp
  refine h.out.mono ?_
  rintro e w4 ⟨k4,s4,l4,mn4,mx4,v2,w5,w6,rfl,c7b,c7c,happ,hst,h⟩
  replace h:=Zaa h
  replace happ:=Zaa happ
  replace hst:=Zaa hst
  refine hK10 _ _ ?_
  clear hK10 K10
  try simp only [Act.put,PuA]
  refine wpAny_ready (rs:=[11]) (by kernel_rfl) (by simp) ?_
  refine (AllReady.cons rfl (fun K11 hK11=>?_) AllReady.nil)
  refine ZbB rfl (v:=.slice (some ⟨w4.heap.size,0,none⟩) 1 1) (w':=w4.alloc (.cells (reA k4 s4 l4 mn4 mx4) 27)) (ZcZ _ _ _ _ _ _ _ _ _ rfl _) ?_
  refine hK11 _ _ ?_
  clear hK11 K11
  try simp only [Act.put,PuA]
  refine wpAny_ready (rs:=[12]) (by kernel_rfl) (by simp) ?_
  refine (AllReady.cons rfl (fun K12 hK12=>?_) AllReady.nil)
  refine ZbB rfl (v:=v2) (w':=w5) (Zct _ _ _ _ rfl rfl happ.out) ?_
  refine hK12 _ _ ?_
  clear hK12 K12
  try simp only [Act.put,PuA]
  refine wpAny_take (i:=13)  (v:=?_) rfl (by kernel_rfl) (by kernel_rfl) (by kernel_rfl) (fun _ _ _ h=>h) (Or.inl ⟨by rfl,?_⟩) ?_
  rotate_left
  ·intro w'
   go_simp
   try with_reducible rfl
  try simp only [Act.put,PuA]
  refine wpAny_ready (rs:=[14]) (by kernel_rfl) (by simp) ?_
  refine (AllReady.cons rfl (fun K14 hK14=>?_) AllReady.nil)
  refine ZcY rfl rfl (w':=w6) (Zc0 _ rfl rfl hst.out) ?_
  refine hK14 _ _ ?_
  clear hK14 K14
  try simp only [Act.put,PuA]
  refine wpAny_done (by kernel_rfl) ?_ _
  refine NoPanic.normal ?_
  exact h.out
 ·go_simp
  refine hK3 _ _ ?_
  clear hK3 K3
  try simp only [Act.put,PuA]
  refine wpAny_take (i:=5)  (v:=?_) rfl (by kernel_rfl) (by kernel_rfl) (by kernel_rfl) (fun _ _ _ h=>h) (Or.inl ⟨by rfl,?_⟩) ?_
  rotate_left
  ·intro w'
   go_simp
   try with_reducible rfl
  try simp only [Act.put,PuA]
  refine wpAny_ready (rs:=[1,6]) (by kernel_rfl) (by simp) ?_
  refine (AllReady.cons rfl (fun K1 hK1=>?_) (AllReady.cons rfl (fun K6 hK6=>?_) AllReady.nil))
  ·go_simp
   refine hK1 _ _ ?_
   clear hK1 K1
   try simp only [Act.put,PuA]
   refine wpAny_ready (rs:=[6]) (by kernel_rfl) (by simp) ?_
   refine (AllReady.cons rfl (fun K6 hK6=>?_) AllReady.nil)
   refine ZbB rfl (Zfd _ rfl hld) ?_
   refine hK6 _ _ ?_
   clear hK6 K6
   try simp only [Act.put,PuA]
   refine wpAny_ready (rs:=[10]) (by kernel_rfl) (by simp) ?_
   refine (AllReady.cons rfl (fun K10 hK10=>?_) AllReady.nil)
   go_simp
   refine h.out.mono ?_
   rintro e w4 ⟨k4,s4,l4,mn4,mx4,v2,w5,w6,rfl,c7b,c7c,happ,hst,h⟩
   replace h:=Zaa h
   replace happ:=Zaa happ
   replace hst:=Zaa hst
   refine hK10 _ _ ?_
   clear hK10 K10
   try simp only [Act.put,PuA]
   refine wpAny_ready (rs:=[11]) (by kernel_rfl) (by simp) ?_
   refine (AllReady.cons rfl (fun K11 hK11=>?_) AllReady.nil)
   refine ZbB rfl (v:=.slice (some ⟨w4.heap.size,0,none⟩) 1 1) (w':=w4.alloc (.cells (reA k4 s4 l4 mn4 mx4) 27)) (ZcZ _ _ _ _ _ _ _ _ _ rfl _) ?_
   refine hK11 _ _ ?_
   clear hK11 K11
   try simp only [Act.put,PuA]
   refine wpAny_ready (rs:=[12]) (by kernel_rfl) (by simp) ?_
   refine (AllReady.cons rfl (fun K12 hK12=>?_) AllReady.nil)
   refine ZbB rfl (v:=v2) (w':=w5) (Zct _ _ _ _ rfl rfl happ.out) ?_
   refine hK12 _ _ ?_
   clear hK12 K12
   try simp only [Act.put,PuA]
   refine wpAny_take (i:=13)  (v:=?_) rfl (by kernel_rfl) (by kernel_rfl) (by kernel_rfl) (fun _ _ _ h=>h) (Or.inl ⟨by rfl,?_⟩) ?_
   rotate_left
   ·intro w'
    go_simp
    try with_reducible rfl
   try simp only [Act.put,PuA]
   refine wpAny_ready (rs:=[14]) (by kernel_rfl) (by simp) ?_
   refine (AllReady.cons rfl (fun K14 hK14=>?_) AllReady.nil)
   refine ZcY rfl rfl (w':=w6) (Zc0 _ rfl rfl hst.out) ?_
   refine hK14 _ _ ?_
   clear hK14 K14
   try simp only [Act.put,PuA]
   refine wpAny_done (by kernel_rfl) ?_ _
   refine NoPanic.normal ?_
   exact h.out
  ·refine ZbB rfl (Zfd _ rfl hld) ?_
   refine hK6 _ _ ?_
   clear hK6 K6
   try simp only [Act.put,PuA]
   refine wpAny_ready (rs:=[1,10]) (by kernel_rfl) (by simp) ?_
   refine (AllReady.cons rfl (fun K1 hK1=>?_) (AllReady.cons rfl (fun K10 hK10=>?_) AllReady.nil))
   ·go_simp
    refine hK1 _ _ ?_
    clear hK1 K1
    try simp only [Act.put,PuA]
    refine wpAny_ready (rs:=[10]) (by kernel_rfl) (by simp) ?_
    refine (AllReady.cons rfl (fun K10 hK10=>?_) AllReady.nil)
    go_simp
    refine h.out.mono ?_
    rintro e w4 ⟨k4,s4,l4,mn4,mx4,v2,w5,w6,rfl,c7b,c7c,happ,hst,h⟩
    replace h:=Zaa h
    replace happ:=Zaa happ
    replace hst:=Zaa hst
    refine hK10 _ _ ?_
    clear hK10 K10
    try simp only [Act.put,PuA]
    refine wpAny_ready (rs:=[11]) (by kernel_rfl) (by simp) ?_
    refine (AllReady.cons rfl (fun K11 hK11=>?_) AllReady.nil)
    refine ZbB rfl (v:=.slice (some ⟨w4.heap.size,0,none⟩) 1 1) (w':=w4.alloc (.cells (reA k4 s4 l4 mn4 mx4) 27)) (ZcZ _ _ _ _ _ _ _ _ _ rfl _) ?_
    refine hK11 _ _ ?_
    clear hK11 K11
    try simp only [Act.put,PuA]
    refine wpAny_ready (rs:=[12]) (by kernel_rfl) (by simp) ?_
    refine (AllReady.cons rfl (fun K12 hK12=>?_) AllReady.nil)
    refine ZbB rfl (v:=v2) (w':=w5) (Zct _ _ _ _ rfl rfl happ.out) ?_
    refine hK12 _ _ ?_
    clear hK12 K12
    try simp only [Act.put,PuA]
    refine wpAny_take (i:=13)  (v:=?_) rfl (by kernel_rfl) (by kernel_rfl) (by kernel_rfl) (fun _ _ _ h=>h) (Or.inl ⟨by rfl,?_⟩) ?_
    rotate_left
    ·intro w'
     go_simp
     try with_reducible rfl
    try simp only [Act.put,PuA]
    refine wpAny_ready (rs:=[14]) (by kernel_rfl) (by simp) ?_
    refine (AllReady.cons rfl (fun K14 hK14=>?_) AllReady.nil)
    refine ZcY rfl rfl (w':=w6) (Zc0 _ rfl rfl hst.out) ?_
    refine hK14 _ _ ?_
    clear hK14 K14
    try simp only [Act.put,PuA]
    refine wpAny_done (by kernel_rfl) ?_ _
    refine NoPanic.normal ?_
    exact h.out
   ·go_simp
    refine h.out.mono ?_
    rintro e w4 ⟨k4,s4,l4,mn4,mx4,v2,w5,w6,rfl,c7b,c7c,happ,hst,h⟩
    replace h:=Zaa h
    replace happ:=Zaa happ
    replace hst:=Zaa hst
    refine hK10 _ _ ?_
    clear hK10 K10
    try simp only [Act.put,PuA]
    refine wpAny_ready (rs:=[1,11]) (by kernel_rfl) (by simp) ?_
    refine (AllReady.cons rfl (fun K1 hK1=>?_) (AllReady.cons rfl (fun K11 hK11=>?_) AllReady.nil))
    ·go_simp
     refine hK1 _ _ ?_
     clear hK1 K1
     try simp only [Act.put,PuA]
     refine wpAny_ready (rs:=[11]) (by kernel_rfl) (by simp) ?_
     refine (AllReady.cons rfl (fun K11 hK11=>?_) AllReady.nil)
     refine ZbB rfl (v:=.slice (some ⟨w4.heap.size,0,none⟩) 1 1) (w':=w4.alloc (.cells (reA k4 s4 l4 mn4 mx4) 27)) (ZcZ _ _ _ _ _ _ _ _ _ rfl _) ?_
     refine hK11 _ _ ?_
     clear hK11 K11
     try simp only [Act.put,PuA]
     refine wpAny_ready (rs:=[12]) (by kernel_rfl) (by simp) ?_
     refine (AllReady.cons rfl (fun K12 hK12=>?_) AllReady.nil)
     refine ZbB rfl (v:=v2) (w':=w5) (Zct _ _ _ _ rfl rfl happ.out) ?_
     refine hK12 _ _ ?_
     clear hK12 K12
     try simp only [Act.put,PuA]
     refine wpAny_take (i:=13)  (v:=?_) rfl (by kernel_rfl) (by kernel_rfl) (by kernel_rfl) (fun _ _ _ h=>h) (Or.inl ⟨by rfl,?_⟩) ?_
     rotate_left
     ·intro w'
      go_simp
      try with_reducible rfl
     try simp only [Act.put,PuA]
     refine wpAny_ready (rs:=[14]) (by kernel_rfl) (by simp) ?_
     refine (AllReady.cons rfl (fun K14 hK14=>?_) AllReady.nil)
     refine ZcY rfl rfl (w':=w6) (Zc0 _ rfl rfl hst.out) ?_
     refine hK14 _ _ ?_
     clear hK14 K14
     try simp only [Act.put,PuA]
     refine wpAny_done (by kernel_rfl) ?_ _
     refine NoPanic.normal ?_
     exact h.out
    ·refine ZbB rfl (v:=.slice (some ⟨w4.heap.size,0,none⟩) 1 1) (w':=w4.alloc (.cells (reA k4 s4 l4 mn4 mx4) 27)) (ZcZ _ _ _ _ _ _ _ _ _ rfl _) ?_
     refine hK11 _ _ ?_
     clear hK11 K11
     try simp only [Act.put,PuA]
     refine wpAny_ready (rs:=[1]) (by kernel_rfl) (by simp) ?_
     refine (AllReady.cons rfl (fun K1 hK1=>?_) AllReady.nil)
     go_simp
     refine hK1 _ _ ?_
     clear hK1 K1
     try simp only [Act.put,PuA]
     refine wpAny_ready (rs:=[12]) (by kernel_rfl) (by simp) ?_
     refine (AllReady.cons rfl (fun K12 hK12=>?_) AllReady.nil)
     refine ZbB rfl (v:=v2) (w':=w5) (Zct _ _ _ _ rfl rfl happ.out) ?_
     refine hK12 _ _ ?_
     clear hK12 K12
     try simp only [Act.put,PuA]
     refine wpAny_take (i:=13)  (v:=?_) rfl (by kernel_rfl) (by kernel_rfl) (by kernel_rfl) (fun _ _ _ h=>h) (Or.inl ⟨by rfl,?_⟩) ?_
     rotate_left
     ·intro w'
      go_simp
      try with_reducible rfl
     try simp only [Act.put,PuA]
     refine wpAny_ready (rs:=[14]) (by kernel_rfl) (by simp) ?_
     refine (AllReady.cons rfl (fun K14 hK14=>?_) AllReady.nil)
     refine ZcY rfl rfl (w':=w6) (Zc0 _ rfl rfl hst.out) ?_
     refine hK14 _ _ ?_
     clear hK14 K14
     try simp only [Act.put,PuA]
     refine wpAny_done (by kernel_rfl) ?_ _
     refine NoPanic.normal ?_
     exact h.out
end G
end Go.Proofs.YtnffbmipllhjdaaGreatDoor
