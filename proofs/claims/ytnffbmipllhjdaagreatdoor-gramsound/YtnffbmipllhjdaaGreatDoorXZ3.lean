/- GramSound, part 3. -/
import Derived.Test.YtnffbmipllhjdaaGreatDoorXZ2
import Derived.Laws.CopyRow
import Derived.Laws.MakeOwn
import Derived.Shelf.Lay
import Derived.Shelf.Bits.Mul64
import Derived.Maps.AppendAt
set_option linter.all false
set_option maxHeartbeats 8000000
namespace Go.Proofs.YtnffbmipllhjdaaGreatDoor
section
open Go.RowKit
theorem clo76:Clo 201:=fun args w=>by kernel_rfl
theorem clo64:Clo 162:=fun args w=>by kernel_rfl
theorem clo94:Clo 226:=fun args w=>by kernel_rfl
theorem clo93:Clo 225:=fun args w=>by kernel_rfl
theorem clo61:Clo 159:=fun args w=>by kernel_rfl
theorem clo82:Clo 207:=fun args w=>by kernel_rfl
theorem clo81:Clo 206:=fun args w=>by kernel_rfl
theorem clo77:Clo 202:=fun args w=>by kernel_rfl
def CodeP (b:Nat)(R:Nat->Prop)(w:World)(c:Cd)(e:Ending)(w':World):Prop:=∃ z f,e=.returned (cdV z f)/\CdOk b R w' z f c/\Below w.heap.size w w'
section
variable {S:Nat->Prop}{w0 w w':World}{L:List Ent}{ops:Array Oper}{rest:List Oper}{a:Act}{Q:Exit->Act->World->Prop}{dst:Option Nat}{x y z:Operand}{ty:TypeId}{pos:String}{after:Array Edge}
theorem ZbT (ev:Operand->Value)(n:Nat)(fn:Fn)(xs ys:Array Value)(h0:ev x=.int .i64 (n:Int))(h1:ev y=.func fn xs ys)(w:World):(execOp ev ⟨dst,.build 121 #[(0,x),(1,y)],ty,pos,after,none⟩).run Tryz.prog w=.ok (.value (cdV n (.func fn xs ys))) w:=by
 unfold execOp
 simp only [List.map_toArray,List.map_cons,List.map_nil,h0,h1]
 kernel_rfl
theorem Zih (H:St S w0 w L){n:Int}(hx:a.eval x=.int .i64 n)(h:∀ g w',St S w0 w' ((true,g,3,#[.int .i64 n])::L)->w0.heap.size<=g->w.heap.size<=g->wpList Tryz.prog ops Q rest (a.put dst (.pointer (some ⟨g,0,none⟩))) w'):wpList Tryz.prog ops Q (⟨dst,.box 3 x,ty,pos,after,none⟩::rest) a w:=by
 refine ZaI (w':=w.alloc (.cells #[.int .i64 n] 3)) ?_ (h _ _ (H.alloc 3 _) H.but.size (Nat.le_refl _))
 unfold execOp
 simp only [hx]
 kernel_rfl
theorem Zdo (ev:Operand->Value)(n:Nat)(f:Value)(h0:ev x=cdV n f)(w:World):(execOp ev ⟨dst,.field 121 x 1,ty,pos,after,none⟩).run Tryz.prog w=.ok (.value f) w:=by
 unfold execOp
 simp only [h0]
 kernel_rfl
theorem Zii (ev:Operand->Value)(n:Nat)(f:Value)(h0:ev x=cdV n f)(w:World):(execOp ev ⟨dst,.field 121 x 0,ty,pos,after,none⟩).run Tryz.prog w=.ok (.value (.int .i64 (n:Int))) w:=by
 unfold execOp
 simp only [h0]
 kernel_rfl
theorem Zeq (t:TypeId){k:Nat}(h:wpList Tryz.prog ops Q (⟨dst,.field t x k,ty,pos,after,none⟩::rest) a w):wpList Tryz.prog ops Q (⟨dst,.field t x k,ty,pos,after,none⟩::rest) a w:=h
end
theorem Kp.get {R:Nat->Prop}{w W:World}(h:Kp R w W){g:Nat}{o:Obj}(hg:w.heap[g]?=some o)(hR:¬ R g):W.heap[g]?=some o:=(h.2 g (Array.getElem?_eq_some_iff.1 hg).1 hR).trans hg
theorem ZdW (R:Nat->Prop)(i:Ins)(w:World)(hR:∀ k,R k->k<w.heap.size):Calls Tryz.prog 158 #[ZdB i] w (CodeP cap R w (sgl i.op i.s)):=by
 have H:=St.start Nope w
 go_enter Tryz.func158,Tryz.ntmps158
 go_wp2_with (first|((with_reducible refine Zar 182 ?_);refine Zcu (i:=i) H rfl ?_;clear H;intro g1 w1 H q1 q2)|((with_reducible refine Zae 121 ?_);refine ZaS H ?_;clear H;intro g2 w2 H q3 q4)|((with_reducible refine Zbe 121 ?_);refine ZaI (ZbT _ 1 (.func 201) #[] #[.pointer (some ⟨g1,0,none⟩)] rfl rfl _) ?_)|((with_reducible refine Zab 121 ?_);refine ZaU 0 (z':=1) (f':=.func (.func 201) #[] #[.pointer (some ⟨g1,0,none⟩)]) H rfl rfl rfl rfl ?_;clear H;intro w3 H))
 refine bodyPost_ret (Zaf rfl _ _ _ _ rfl (ZcI (H.get 0 rfl))) rfl ?_
 have hg:=H.get 1 rfl
 refine⟨1,_,rfl,⟨rfl,by decide,201,_,rfl,clo76,fun W v I m hK hr hv hl hm=>?_⟩,H.below⟩
 exact Zif g1 i W v I m (hK.get hg (fun h=>by have:=hR _ h;omega)) hr (by omega)
theorem end_any (R:Nat->Prop)(w:World):Calls Tryz.prog 108 #[] w (CodeP cap R w endC):=by
 have H:=St.start Nope w
 go_enter Tryz.func108,Tryz.ntmps108
 go_wp2_with (first|((with_reducible refine Zae 121 ?_);refine ZaS H ?_;clear H;intro g2 w2 H q3 q4)|((with_reducible refine Zbe 121 ?_);refine ZaI (ZbT _ 1 (.func 162) #[] #[] rfl rfl _) ?_)|((with_reducible refine Zab 121 ?_);refine ZaU 0 (z':=1) (f':=.func (.func 162) #[] #[]) H rfl rfl rfl rfl ?_;clear H;intro w3 H))
 refine bodyPost_ret (Zaf rfl _ _ _ _ rfl (ZcI (H.get 0 rfl))) rfl ?_
 refine⟨1,_,rfl,⟨rfl,by decide,162,_,rfl,clo64,fun W v I m hK hr hv hl hm=>?_⟩,H.below⟩
 exact end1_any W v I m hr (by omega)
theorem ZdX (R:Nat->Prop)(z:Nat)(f:Value)(c:Cd)(o:Nat)(w:World)(b:Nat)(hb0:b<=2000000)(hc:CdOk b R w z f c)(hR:∀ k,R k->k<w.heap.size):Calls Tryz.prog 205 #[cdV z f,.int .i64 (o:Int)] w (CodeP (b+1) R w (opt c o)):=by
 have H:=St.start Nope w
 have h1:f.oneCell'=true:=hc.put.one
 have hz2:=hc.le
 obtain⟨z1,hz1⟩:∃ z1,z1=1+z:=⟨_,rfl⟩
 have e1:IntKind.i64.wrap (1+(z:Int))=(z1:Int):=by rw [IntKind.wrap_i64];omega
 have e2:wrap64 (1+(z:Int))=(z1:Int):=by rw [w64 _ (by omega)];omega
 replace hz1:=Zaa hz1
 replace hc:=Zaa hc
 go_enter Tryz.func205,Tryz.ntmps205
 go_wp2_with (first|((with_reducible refine Zar 121 ?_);refine Zib H rfl ?_;clear H;intro g1 w1 H q1 q2)|((with_reducible refine Zar 3 ?_);refine Zih H (n:=(o:Int)) rfl ?_;clear H;intro g2 w2 H q3 q4)|((with_reducible refine Zae 121 ?_);refine ZaS H ?_;clear H;intro g3 w2 H q5 q6)|((with_reducible refine Zac 3 ?_);refine Zax 2 0 H (v:=.int .i64 (z:Int)) rfl rfl rfl ?_)|((with_reducible refine Zbe 121 ?_);refine ZaI (ZbT _ z1 (.func 226) #[] #[.pointer (some ⟨g1,0,none⟩),.pointer (some ⟨g2,0,none⟩)] rfl rfl _) ?_)|((with_reducible refine Zab 121 ?_);refine ZaU 0 (z':=z1) (f':=.func (.func 226) #[] #[.pointer (some ⟨g1,0,none⟩),.pointer (some ⟨g2,0,none⟩)]) H rfl rfl rfl rfl ?_;clear H;intro w3 H))
 refine bodyPost_ret (Zaf rfl _ _ _ _ rfl (ZcI (H.get 0 rfl))) rfl ?_
 have k1:=H.get 2 rfl
 have k2:=H.get 1 rfl
 have hb:=H.below
 have hp:=hc.out.put.below hb
 refine⟨z1,_,rfl,⟨by rw [hz1.out];exact hc.out.sz.one,by have:=hz1.out;omega,226,_,rfl,clo94,fun W v I m hK hr hv hl hm=>?_⟩,hb⟩
 have l1:=(Array.getElem?_eq_some_iff.1 k1).1
 have l2:=(Array.getElem?_eq_some_iff.1 k2).1
 refine Zig g1 g2 z f c o W v I m (hK.get k1 (fun h=>by have:=hR _ h;omega)) (hK.get k2 (fun h=>by have:=hR _ h;omega)) (hp.mono hK (fun k hk=>hv k hk)) ⟨fun h=>?_,fun h=>?_⟩ hr (by simpa [opt] using hl) hm
 ·rcases hv _ h with h|h
  ·have:=hR _ h;omega
  ·omega
 ·rcases hv _ h with h|h
  ·have:=hR _ h;omega
  ·omega
theorem ZlA (gc:Nat)(z:Nat)(f:Value)(c:Cd)(W:World)(v:Value)(I:List Ins)(m:Nat)(b:Nat)(hb0:b<=2000000)(hgc:W.heap[gc]?=some (.cells (cdA z f) 121 (0,0)))(hf:CdOk b (fun k=>v.ownBlock=some k) W z f c)(hn:v.ownBlock≠some gc)(hr:RI W v I)(hl:I.length+(1+c.n)<=100000)(hm:m<=100000) :
  Calls Tryz.prog 225 #[v,.int .i64 ((m:Nat):Int),.pointer (some ⟨gc,0,none⟩)] W (PutE W v (I++(lp c).put I.length m)):=by
 have H:=(St.start Nope W).ro hgc (fun _ h=>(List.not_mem_nil h).elim)
 obtain⟨a,cp,hv⟩:=hr.val
 subst hv
 have OP:=Zaa (ZdX _ z f c m W b hb0 hf (fun k hk=>hr.lt hk))
 replace hr:=Zaa hr
 replace hf:=Zaa hf
 replace hgc:=Zaa hgc
 generalize hJ:I++(lp c).put I.length m=J
 replace hJ:=Zaa hJ
 go_enter Tryz.func225,Tryz.ntmps225
 go_wp2_with (first|((with_reducible refine Zac 121 ?_);refine Zep 0 H rfl rfl ?_))
 refine OP.out.mono ?_
 rintro e w1 ⟨z1,f1,rfl,C1,B1⟩
 obtain⟨nf,caps,rfl,hcl,PF⟩:=C1.put
 have PP:=Zaa (PF w1 _ I I.length (Kp.refl _ _) (hr.out.below B1) (fun k hk=>.inl hk) hl (by omega))
 replace PF:=Zaa PF
 replace C1:=Zaa C1
 go_wp2_with (first|((with_reducible refine Zeq 121 ?_);refine ZaI (Zdo _ z1 (.func (.func nf) #[] caps) rfl _) ?_)|((with_reducible refine Zdj ?_);refine Zdm (u1:=.slice a I.length cp) (u2:=.int .i64 (I.length:Int)) rfl rfl rfl hcl ?_))
 refine PP.out.mono ?_
 rintro e w2 ⟨v2,rfl,r2,b2,o2⟩
 refine⟨v2,rfl,?_⟩
 have fin:Hid (PutE W (.slice a I.length cp) J (.returned v2) w2):=by
  have h3:=PutE.after (Zbd B1 _ (fun k h1 h2=>by omega)) (fun k hk=>.inl hk) (⟨v2,rfl,r2,b2,o2⟩:PutE w1 _ _ (.returned v2) w2)
  rw [<- hJ.out]
  exact h3
 clear r2 b2 o2
 go_wp2_with fail
 go_ret
 exact fin.out
theorem loop_any (R:Nat->Prop)(z:Nat)(f:Value)(c:Cd)(w:World)(b:Nat)(hb0:b<=2000000)(hc:CdOk b R w z f c)(hR:∀ k,R k->k<w.heap.size):Calls Tryz.prog 204 #[cdV z f] w (CodeP (b+1) R w (lp c)):=by
 have H:=St.start Nope w
 have h1:f.oneCell'=true:=hc.put.one
 have hz2:=hc.le
 obtain⟨z1,hz1⟩:∃ z1,z1=1+z:=⟨_,rfl⟩
 have e1:IntKind.i64.wrap (1+(z:Int))=(z1:Int):=by rw [IntKind.wrap_i64];omega
 have e2:wrap64 (1+(z:Int))=(z1:Int):=by rw [w64 _ (by omega)];omega
 replace hz1:=Zaa hz1
 replace hc:=Zaa hc
 go_enter Tryz.func204,Tryz.ntmps204
 go_wp2_with (first|((with_reducible refine Zar 121 ?_);refine Zib H rfl ?_;clear H;intro g1 w1 H q1 q2)|((with_reducible refine Zae 121 ?_);refine ZaS H ?_;clear H;intro g3 w2 H q5 q6)|((with_reducible refine Zac 3 ?_);refine Zax 1 0 H (v:=.int .i64 (z:Int)) rfl rfl rfl ?_)|((with_reducible refine Zbe 121 ?_);refine ZaI (ZbT _ z1 (.func 225) #[] #[.pointer (some ⟨g1,0,none⟩)] rfl rfl _) ?_)|((with_reducible refine Zab 121 ?_);refine ZaU 0 (z':=z1) (f':=.func (.func 225) #[] #[.pointer (some ⟨g1,0,none⟩)]) H rfl rfl rfl rfl ?_;clear H;intro w3 H))
 refine bodyPost_ret (Zaf rfl _ _ _ _ rfl (ZcI (H.get 0 rfl))) rfl ?_
 have k1:=H.get 1 rfl
 have hb:=H.below
 have hp:=hc.out.below hb
 refine⟨z1,_,rfl,⟨by rw [hz1.out];exact hc.out.sz.one,by have:=hz1.out;omega,225,_,rfl,clo93,fun W v I m hK hr hv hl hm=>?_⟩,hb⟩
 have l1:=(Array.getElem?_eq_some_iff.1 k1).1
 refine ZlA g1 z f c W v I m b hb0 (hK.get k1 (fun h=>by have:=hR _ h;omega)) (hp.mono hK (fun k hk=>hv k hk)) (fun h=>?_) hr (by simpa [lp] using hl) hm
 rcases hv _ h with h|h
 ·have:=hR _ h;omega
 ·omega
end
section
open Go.RowKit
theorem CsV.val2 {b:Nat}{R:Nat->Prop}{w:World}{v:Value}{cs:List Cd}(h:CsV b R w v cs)(h0:0<cs.length):∃ g cp,v=.slice (some ⟨g,0,none⟩) cs.length cp/\cs.length<=cp/\cp<=maxLen/\g<w.heap.size/\¬ R g:=by
 obtain⟨xs,o,hb,hc⟩:=h
 rcases o.2 with⟨_,h1⟩|⟨g,cap,cur,rfl,_,hg,h4,h5,_⟩
 ·omega
 ·exact⟨g,cap,rfl,h4,h5,(Array.getElem?_eq_some_iff.1 hg).1,hb g rfl⟩
theorem CsV.at2 {b:Nat}{R:Nat->Prop}{w:World}{g n cp:Nat}{cs:List Cd}(h:CsV b R w (.slice (some ⟨g,0,none⟩) n cp) cs){k:Nat}{c:Cd}(hk:cs[k]?=some c):∃ z f,CdOk b R w z f c/\∀ W,Kp R w W->W.cell? ⟨g,k * 2,none⟩=some (.int .i64 ((z:Nat):Int))/\W.cell? ⟨g,k * 2+1,none⟩=some f:=by
 obtain⟨g',cp',z,f,e,_,_,_,h1,h2⟩:=h.at hk
 cases e
 exact⟨z,f,h1,h2⟩
theorem Zjs:∀ l:List Cd,l.length<=ZbJ l
 | []=>Nat.le_refl _
 | c::r=>by have:=c.pos;have:=Zjs r;simp only [List.length_cons,ZbJ];omega
theorem ZlB (l:List Cd)(k:Nat):ZbJ (l.take k)<=ZbJ l:=by
 have:=ZbS (l.take k) (l.drop k)
 rw [List.take_append_drop] at this
 omega
theorem ZcJ {l:List Cd}{k:Nat}{c:Cd}(h:l[k]?=some c):l.take (k+1)=l.take k++[c]:=by rw [List.take_add_one,h];rfl
structure PI (W:World) (v:Value) (wr:World) (u:Value) (J:List Ins):Prop where
 row:RI wr u J
 but:But (fun k=>v.ownBlock=some k) W wr
 own:∀ k,u.ownBlock=some k->v.ownBlock=some k\/W.heap.size<=k
theorem PI.kp {W wr:World}{v u:Value}{J:List Ins}(h:PI W v wr u J):Kp (fun k=>v.ownBlock=some k) W wr:=(Kp.refl _ W).but h.but (fun i h=>.inl h)
theorem PI.below {W wr w':World}{v u:Value}{J:List Ins}(h:PI W v wr u J)(hb:Below wr.heap.size wr w'):PI W v w' u J:=⟨h.row.below hb,h.but.trans (T:=fun _=>False) ⟨hb.os,hb.tape,hb.output,hb.size,fun k hk _=>hb.block k hk⟩ (fun _ _ h=>h.elim),h.own⟩
theorem PI.put {W wr w':World}{v u u':Value}{J J':List Ins}(h:PI W v wr u J)(hp:PutE wr u J' (.returned u') w'):PI W v w' u' J':=by
 obtain⟨_,e,h1,h2,h3⟩:=PutE.after h.but h.own hp
 cases e
 exact⟨h1,h2,h3⟩
theorem PI.putE {W wr w':World}{v u:Value}{J J':List Ins}{e:Ending}(h:PI W v wr u J)(hp:PutE wr u J' e w'):PutE W v J' e w':=PutE.after h.but h.own hp
theorem St.ro2 {w:World}{g1 g2:Nat}{t1 t2:TypeId}{xs ys:Array Value}(h1:w.heap[g1]?=some (.cells xs t1 (0,0)))(h2:w.heap[g2]?=some (.cells ys t2 (0,0)))(hne:g1≠g2):St Nope w w [(false,g1,t1,xs),(false,g2,t2,ys)] :=
 ((St.start Nope w).ro h2 (fun _ h=>(List.not_mem_nil h).elim)).ro h1 (fun x h=>by rw [List.mem_singleton.1 h];exact fun e=>hne e.symm)
set_option maxRecDepth 100000 in
theorem seq1_any (gp gl:Nat)(sv:Value)(p:List Cd)(c:Cd)(b:Nat)(W:World)(v:Value)(I:List Ins)(m:Nat)(hgp:W.heap[gp]?=some (.cells #[sv] 221 (0,0)))(hgl:W.heap[gl]?=some (.cells #[.int .i64 (p.length:Int)] 3 (0,0)))(hne:gp≠gl)(hcs:CsV b (fun k=>v.ownBlock=some k) W sv (p++[c]))(hn:v.ownBlock≠some gp/\v.ownBlock≠some gl)(hr:RI W v I)(hl:I.length+max 1 (ZbJ (p++[c]))<=100000)(hm:m<=100000) :
  Calls Tryz.prog 159 #[v,.int .i64 ((m:Nat):Int),.pointer (some ⟨gp,0,none⟩),.pointer (some ⟨gl,0,none⟩)] W (PutE W v (I++sqP (p++[c]) I.length m)):=by
 obtain⟨g,cp,rfl,hcp,hcm,hgs,hRg⟩:=hcs.val2 (by simp)
 have hpl:(p++[c]).length=p.length+1:=by simp
 rw [hpl] at hgp hcp hcs
 have H:=St.ro2 hgp hgl hne
 have hsum:I.length+ZbJ p+c.n<=100000:=by rw [ZbS] at hl;simp only [ZbJ] at hl;omega
 have hplen:=Zjs p
 unfold maxLen at hcm
 have hP:PI W v W v I:=⟨hr,But.refl _ _,fun k hk=>.inl hk⟩
 obtain⟨a,cv,hv⟩:=hr.val
 have hP2:Hid (PI W v W (.slice a I.length cv) I):=hv ▸ hP
 have hIl:Hid (I.length=I.length+ZbJ (p.take 0)):=by simp [Hid,ZbJ]
 rw [Zjj]
 have hcs':=Zaa hcs
 replace hgp:=Zaa hgp
 replace hgl:=Zaa hgl
 replace hn:=Zaa hn
 have hvs:Hid (v=.slice a I.length cv):=hv
 generalize hJ:I++(Zft p I.length++c.put (I.length+ZbJ p) m)=J
 replace hJ:=Zaa hJ
 clear hcs hr hl hv hP
 have i1:(p.length:Int)<=(cp:Int):=by omega
 have i2:(0:Int)<=(p.length:Int):=by omega
 have i0:(p.length:Int)<(p.length:Int)+1:=by omega
 go_enter Tryz.func159,Tryz.ntmps159
 rw [hvs.out]
 go_wp2_with (first|((with_reducible refine Zac 221 ?_);refine Zcl 0 0 H rfl rfl rfl ?_)|((with_reducible refine Zac 3 ?_);refine Zax 1 0 H (v:=.int .i64 (p.length:Int)) rfl rfl rfl ?_))
 clear H
 go_loopw [0,13] (fun uv iv wr=>∃ (k n:Nat) (ua:Option Addr) (uc:Nat),k<=p.length/\iv=.int .i64 (k:Int)/\uv=.slice ua n uc/\Hid (n=I.length+ZbJ (p.take k))/\Hid (PI W v wr (.slice ua n uc) (I++Zft (p.take k) I.length))) (fun _ iv _=>p.length - (intOf iv).toNat)
 case atStart=>exact⟨0,I.length,a,cv,Nat.zero_le _,rfl,rfl,hIl,by simpa [Zft,Hid] using hP2.out⟩
 case round =>
  obtain⟨k,n,ua,uc,hk,rfl,rfl,hnk,hPk⟩:=hrel
  have H:=St.ro2 (hPk.out.kp.get hgp.out hn.out.1) (hPk.out.kp.get hgl.out hn.out.2) hne
  have hkp:=Zaa hPk.out.kp
  by_cases hlt:k<p.length
  ·have i3:(k:Int)<(p.length:Int):=by omega
   obtain⟨ck,hck⟩:∃ ck,p[k]?=some ck:=⟨_,List.getElem?_eq_getElem hlt⟩
   obtain⟨z,f,C,cells⟩:=hcs'.out.at2 (k:=k) (c:=ck) (by rw [List.getElem?_append_left hlt];exact hck)
   obtain⟨c0,c1⟩:=cells wr hkp.out
   obtain⟨nf,caps,rfl,hcl,PF⟩:=C.put
   have ht:=ZcJ hck
   have hs1:ZbJ (p.take (k+1))=ZbJ (p.take k)+ck.n:=by rw [ht,ZbS];simp [ZbJ]
   have hs2:=ZlB p (k+1)
   obtain rfl:z=ck.n:=C.sz.exact (by unfold cap;omega)
   have hn1:=hnk.out
   obtain⟨n1,hn2⟩:∃ n1,n1=n+ck.n:=⟨_,rfl⟩
   have hb1:n+ck.n<=100000:=by omega
   have hb2:n1<=100000:=by omega
   have hnk2:Hid (n1=I.length+ZbJ (p.take (k+1))):=by show n1=_;omega
   have e1:IntKind.i64.wrap ((n:Int)+(ck.n:Int))=(n1:Int):=by rw [IntKind.wrap_i64];omega
   have e2:wrap64 ((n:Int)+(ck.n:Int))=(n1:Int):=by rw [w64 _ (by clear e1;omega)];clear e1;omega
   have hld:=Zaa (Zjq c0 c1)
   have hJl:(I++Zft (p.take k) I.length).length=n:=by rw [List.length_append,Zeo,hn1]
   have PP:Hid (∀ w3,Below wr.heap.size wr w3->Calls Tryz.prog nf (#[.slice ua n uc,.int .i64 (n1:Int)]++caps) w3 (PutE w3 (.slice ua n uc) (I++Zft (p.take (k+1)) I.length))):=fun w3 hb=>by
    have:=PF w3 (.slice ua n uc) (I++Zft (p.take k) I.length) n1 (hkp.out.below hb) (hPk.out.row.below hb) (fun j hj=>hPk.out.own j hj) (hJl.symm ▸ hb1) hb2
    rw [hJl] at this
    rw [ht,ZgS,<- List.append_assoc,<- hn1,<- hn2]
    exact this
   have hPb:Hid (∀ w3,Below wr.heap.size wr w3->PI W v w3 (.slice ua n uc) (I++Zft (p.take k) I.length)):=fun w3 hb=>hPk.out.below hb
   have hltH:=Zaa hlt
   replace PF:=Zaa PF
   replace C:=Zaa C
   replace cells:=Zaa cells
   replace ht:=Zaa ht
   replace hs1:=Zaa hs1
   replace hn1:=Zaa hn1
   replace hn2:=Zaa hn2
   replace hJl:=Zaa hJl
   clear c0 c1
   go_wp2_with (first|((with_reducible refine Zac 121 ?_);refine Zau 121 rfl hld.out ?_)|((with_reducible refine Zae 121 ?_);refine ZaS H ?_;clear H;intro g8 w8 H q5 q6)|((with_reducible refine Zab 121 ?_);refine ZaU 0 H rfl rfl rfl rfl ?_;clear H;intro w9 H)|((with_reducible refine Zac 119 ?_);refine Zly 0 1 H (v:=.func (.func nf) #[] caps) rfl rfl rfl ?_)|((with_reducible refine Zac 3 ?_);refine Zax 0 0 H (v:=.int .i64 (ck.n:Int)) rfl rfl rfl ?_)|((with_reducible refine Zdj ?_);refine Zdm (u1:=.slice ua n uc) (u2:=.int .i64 (n1:Int)) rfl rfl rfl hcl ?_))
   have hb9:=H.below
   refine (PP.out _ hb9).mono ?_
   rintro e w10 hE
   obtain⟨u',rfl,he⟩:=hE
   have hPn:=Zaa ((hPb.out _ hb9).put ⟨u',rfl,he⟩)
   obtain⟨ua',uc',rfl⟩:=hPn.out.row.val
   have hl2:(I++Zft (p.take (k+1)) I.length).length=n1:=by rw [List.length_append,Zeo,<- hnk2.out]
   rw [hl2] at hPn ⊢
   refine⟨_,rfl,?_⟩
   clear he hb9 H
   go_wp2_with fail
   go_roundw
   case rel=>exact⟨k+1,n1,ua',uc',hltH.out,by go_num,rfl,hnk2,hPn⟩
   case measure=>have:=hltH.out;simp [intOf];omega
  ·obtain rfl:k=p.length:=by omega
   obtain⟨z,f,C,cells⟩:=hcs'.out.at2 (k:=p.length) (c:=c) (by simp)
   obtain⟨c0,c1⟩:=cells wr hkp.out
   obtain⟨nf,caps,rfl,hcl,PF⟩:=C.put
   have hn1:=hnk.out
   rw [List.take_length] at hn1 hPk
   have hb1:n+c.n<=100000:=by omega
   have hJl:(I++Zft p I.length).length=n:=by rw [List.length_append,Zeo,hn1]
   have PP:Hid (Calls Tryz.prog nf (#[.slice ua n uc,.int .i64 (m:Int)]++caps) wr (PutE wr (.slice ua n uc) J)):=by
    have:=PF wr (.slice ua n uc) _ m hkp.out hPk.out.row (fun j hj=>hPk.out.own j hj) (hJl.symm ▸ hb1) hm
    rw [hJl] at this
    rw [<- hJ.out,<- List.append_assoc,<- hn1]
    exact this
   have hld:=Zaa (ld52 c1)
   replace PF:=Zaa PF
   replace C:=Zaa C
   replace cells:=Zaa cells
   replace hn1:=Zaa hn1
   replace hJl:=Zaa hJl
   clear c0 c1 hlt
   go_wp2_with (first|((with_reducible refine Zac 221 ?_);refine Zcl 0 0 H rfl rfl rfl ?_)|((with_reducible refine Zac 3 ?_);refine Zax 1 0 H (v:=.int .i64 (p.length:Int)) rfl rfl rfl ?_)|((with_reducible refine Zac 119 ?_);refine Zau 119 rfl hld.out ?_)|((with_reducible refine Zdj ?_);refine Zdm (u1:=.slice ua n uc) (u2:=.int .i64 (m:Int)) rfl rfl rfl hcl ?_))
   refine PP.out.mono ?_
   rintro e w10 ⟨u',rfl,he⟩
   have fin:=Zaa (hPk.out.putE ⟨u',rfl,he⟩)
   refine⟨u',rfl,?_⟩
   clear he H
   go_wp2_with fail
   go_ret
   rw [<- hvs.out]
   exact fin.out
end
section
open Go.RowKit
theorem PutOk.congr {R:Nat->Prop}{w:World}{f:Value}{c d:Cd}(h:PutOk R w f c)(hn:d.n=c.n)(hp:∀ a m,d.put a m=c.put a m):PutOk R w f d:=by
 obtain⟨n,caps,e,hc,H⟩:=h
 refine⟨n,caps,e,hc,fun W v L m hK hr hv hl hm=>?_⟩
 rw [hp]
 exact H W v L m hK hr hv (hn ▸ hl) hm
theorem CdOk.congr {b:Nat}{R:Nat->Prop}{w:World}{z:Nat}{f:Value}{c d:Cd}(h:CdOk b R w z f c)(hn:d.n=c.n)(hp:∀ a m,d.put a m=c.put a m):CdOk b R w z f d:=⟨by rw [hn];exact h.sz,h.le,h.put.congr hn hp⟩
theorem CdOk.weak {b b':Nat}{R:Nat->Prop}{w:World}{z:Nat}{f:Value}{c:Cd}(h:CdOk b R w z f c)(hb:b<=b'):CdOk b' R w z f c:=⟨h.sz,Nat.le_trans h.le hb,h.put⟩
section
variable {S:Nat->Prop}{w0 w w':World}{L:List Ent}{ops:Array Oper}{rest:List Oper}{a:Act}{Q:Exit->Act->World->Prop}{dst:Option Nat}{x y z:Operand}{ty:TypeId}{pos:String}{after:Array Edge}
theorem Zer (H:St S w0 w L){ad:Option Addr}{n c:Nat}(hx:a.eval x=.slice ad n c)(h:∀ g w',St S w0 w' ((true,g,221,#[.slice ad n c])::L)->w0.heap.size<=g->w.heap.size<=g->wpList Tryz.prog ops Q rest (a.put dst (.pointer (some ⟨g,0,none⟩))) w'):wpList Tryz.prog ops Q (⟨dst,.box 221 x,ty,pos,after,none⟩::rest) a w:=by
 refine ZaI (w':=w.alloc (.cells #[.slice ad n c] 221)) ?_ (h _ _ (H.alloc 221 _) H.but.size (Nat.le_refl _))
 unfold execOp
 simp only [hx]
 kernel_rfl
theorem ZgV (H:St S w0 w L)(h:∀ g w',St S w0 w' ((true,g,3,#[.int .i64 0])::L)->w0.heap.size<=g->w.heap.size<=g->wpList Tryz.prog ops Q rest (a.put dst (.pointer (some ⟨g,0,none⟩))) w'):wpList Tryz.prog ops Q (⟨dst,.alloc 3,ty,pos,after,none⟩::rest) a w:=by
 refine ZaI (w':=w.alloc (.cells #[.int .i64 0] 3)) ?_ (h _ _ (H.alloc 3 _) H.but.size (Nat.le_refl _))
 unfold execOp
 kernel_rfl
end
theorem Zjt {α:Type}(l:List α)(h:0<l.length):∃ p c,l=p++[c]:=by
 rcases List.eq_nil_or_concat l with rfl|⟨p,c,rfl⟩
 ·simp at h
 ·exact⟨p,c,by simp⟩
theorem CsV.below {b:Nat}{R:Nat->Prop}{w w':World}{v:Value}{cs:List Cd}(h:CsV b R w v cs)(hb:Below w.heap.size w w'):CsV b R w' v cs:=h.mono ((Kp.refl _ _).below hb) (fun _ h=>.inl h)
theorem ZgW (s m:Nat)(h:m=min s 1048576):(if ((s:Nat):Int)<1048576 then ((s:Nat):Int) else 1048576)=(m:Int)/\(if (1048576:Int)<((s:Nat):Int) then (1048576:Int) else ((s:Nat):Int))=(m:Int)/\min ((s:Nat):Int) 1048576=(m:Int):=by
 refine⟨?_,?_,?_⟩
 ·split <;> omega
 ·split <;> omega
 ·omega
theorem CodeP.stored {b:Nat}{R:Nat->Prop}{w w3 w4:World}{g z:Nat}{f:Value}{c:Cd}(B3:Below w.heap.size w w3)(C:CdOk b (fun k=>R k\/k=g) w3 z f c)(hb:But (fun k=>k=g) w3 w4)(hg:w.heap.size<=g):CodeP b R w c (.returned (cdV z f)) w4 :=
 ⟨z,f,rfl,C.mono ((Kp.refl _ _).but hb (fun i h=>.inl (.inr h))) (fun k h=>.inl (.inl h)),B3.trans (hb.below B3.size (fun k h=>by omega))⟩
theorem St.only {S:Nat->Prop}{w0 w:World}{g:Nat}{t:TypeId}{xs:Array Value}{L:List Ent}(H:St S w0 w ((true,g,t,xs)::L)):St (fun k=>k=g) w w [(true,g,t,xs)] :=
 ((H.sub (M:=[(true,g,t,xs)]) (List.Sublist.cons_cons _ (List.nil_sublist _))).rebase _ (fun x hx _=>by rw [List.mem_singleton.1 hx]))
set_option maxRecDepth 100000 in
theorem Zch (R:Nat->Prop)(sv:Value)(cs:List Cd)(b:Nat)(hb0:b<=2000000)(w:World)(hcs:CsV b R w sv cs)(hlen:cs.length<=100000)(hR:∀ k,R k->k<w.heap.size):Calls Tryz.prog 106 #[sv] w (CodeP cap R w (sqn cs)):=by
 have H:=St.start Nope w
 rcases Nat.eq_zero_or_pos cs.length with h0|h0
 ·obtain rfl:cs=[]:=List.eq_nil_of_length_eq_zero h0
  obtain⟨a,c,rfl,_⟩:=hcs.val
  replace hcs:=Zaa hcs
  simp only [List.length_nil]
  go_enter Tryz.func106,Tryz.ntmps106
  go_wp2_with (first|((with_reducible refine Zar 221 ?_);refine Zer H rfl ?_;clear H;intro g1 w1 H q1 q2)|((with_reducible refine Zae 121 ?_);refine ZaS H ?_;clear H;intro g2 w2 H q3 q4)|((with_reducible refine Zac 221 ?_);refine Zcl 1 0 H rfl rfl rfl ?_)|((with_reducible refine Zbe 182 ?_);refine ZaI (Zdn _ 4 rfl _) ?_))
  have hb:=H.below
  have hlt:=H.lti 0 rfl
  refine (ZdW (fun k=>R k\/k=g2) ⟨4,noSet,0,0⟩ _ (fun k hk=>by have:=hb.size;rcases hk with hk|hk;have:=hR k hk;omega;omega)).mono ?_
  rintro e w3 ⟨z,f,rfl,C,B3⟩
  obtain⟨nf,caps,hf,_⟩:=C.put
  subst hf
  have BB:=H.below.trans (B3.mono H.below.size)
  have H3:=(H.call B3 (Nat.le_refl _)).only
  clear H
  replace C:=Zaa C
  go_wp2_with (first|((with_reducible refine Zab 121 ?_);refine ZaU 0 (z':=z) (f':=.func (.func nf) #[] caps) H3 rfl rfl rfl rfl ?_;clear H3;intro w4 H3))
  refine bodyPost_ret (Zaf rfl _ _ _ _ rfl (ZcI (H3.get 0 rfl))) rfl ?_
  exact CodeP.stored BB (C.out.congr rfl (fun a m=>rfl)) H3.but q3
 ·obtain⟨p,c,rfl⟩:=Zjt cs h0
  have hpl:(p++[c]).length=p.length+1:=by simp
  obtain⟨g,cp,rfl,hcp,hcm,hgs,hRg⟩:=hcs.val2 h0
  rw [hpl] at hcp hcs hlen ⊢
  unfold maxLen at hcm
  have hz0:((p.length:Int)+1 == 0)=false:=beq_eq_false_iff_ne.2 (by omega)
  have e0:IntKind.i64.wrap ((p.length:Int)+1 - 1)=(p.length:Int):=by rw [IntKind.wrap_i64];omega
  have hcsH:=Zaa hcs
  clear hcs h0
  go_enter Tryz.func106,Tryz.ntmps106
  go_wp2_with (first|((with_reducible refine Zar 221 ?_);refine Zer H rfl ?_;clear H;intro g1 w1 H q1 q2)|((with_reducible refine Zae 121 ?_);refine ZaS H ?_;clear H;intro g2 w2 H q3 q4)|((with_reducible refine Zac 221 ?_);refine Zcl 1 0 H rfl rfl rfl ?_))
  go_loopw [3,14] (fun zv iv wr=>∃ (k z:Nat),k<=p.length+1/\iv=.int .i64 (k:Int)/\zv=.int .i64 (z:Int)/\z<=1048576/\Hid (SzOk z (ZbJ ((p++[c]).take k)))/\Hid (St Nope w wr [(true,g2,121,cdA 0 .nilFunc),(true,g1,221,#[.slice (some ⟨g,0,none⟩) (p.length+1) cp])])) (fun _ iv _=>p.length+1 - (intOf iv).toNat)
  case atStart=>exact⟨0,0,Nat.zero_le _,rfl,rfl,Nat.zero_le _,(rfl:SzOk 0 0),H⟩
  case round =>
   clear H
   obtain⟨k,z,hk,rfl,rfl,hz,hS,H⟩:=hrel
   replace H:=H.out
   by_cases hlt:k<p.length+1
   ·have i3:(k:Int)<(p.length:Int)+1:=by omega
    obtain⟨ck,hck⟩:∃ ck,(p++[c])[k]?=some ck:=⟨_,List.getElem?_eq_getElem (by rw [hpl];exact hlt)⟩
    obtain⟨zk,f,C,cells⟩:=hcsH.out.at2 (k:=k) (c:=ck) hck
    obtain⟨c0,c1⟩:=cells wr ((Kp.refl _ _).below H.below)
    have hf1:=C.put.one
    have hzk:=C.le
    obtain⟨s1,hs1⟩:∃ s1,s1=z+zk:=⟨_,rfl⟩
    obtain⟨m1,hm1⟩:∃ m1,m1=min s1 1048576:=⟨_,rfl⟩
    obtain⟨f1,f2,f3⟩:=ZgW s1 m1 hm1
    have hm2:m1<=1048576:=hm1 ▸ Nat.min_le_right _ _
    have hS2:Hid (SzOk m1 (ZbJ ((p++[c]).take (k+1)))):=by
     have h1:=hS.out.add C.sz
     have h2:ZbJ [ck]=ck.n:=rfl
     show SzOk m1 _
     rw [ZcJ hck,ZbS,hm1,hs1,h2]
     exact h1
    have e1:IntKind.i64.wrap ((z:Int)+(zk:Int))=(s1:Int):=by rw [IntKind.wrap_i64];omega
    have e2:wrap64 ((z:Int)+(zk:Int))=(s1:Int):=by rw [w64 _ (by clear e1;omega)];clear e1;omega
    have hld:=Zaa (Zjq c0 c1)
    have hltH:=Zaa hlt
    replace C:=Zaa C
    replace cells:=Zaa cells
    replace hs1:=Zaa hs1
    replace hm1:=Zaa hm1
    clear c0 c1
    go_wp2_with (first|((with_reducible refine Zac 121 ?_);refine Zau 121 rfl hld.out ?_)|((with_reducible refine Zae 121 ?_);refine ZaS H ?_;clear H;intro g8 w8 H q5 q6)|((with_reducible refine Zab 121 ?_);refine ZaU 0 H rfl rfl rfl hf1 ?_;clear H;intro w9 H)|((with_reducible refine Zac 3 ?_);refine Zax 0 0 H (v:=.int .i64 (zk:Int)) rfl rfl rfl ?_))
    go_roundw
    case rel=>exact⟨k+1,m1,hltH.out,by go_num,rfl,hm2,hS2,H.tail⟩
    case measure=>have:=hltH.out;simp [intOf];omega
   ·obtain rfl:k=p.length+1:=by omega
    have hS2:SzOk z (ZbJ (p++[c])):=by
     have:=hS.out
     rwa [List.take_of_length_le (by rw [hpl];exact Nat.le_refl _)] at this
    have hsp:=@ZbS p [c]
    have hcp2:=c.pos
    have i4:¬ ((p.length:Int)+1<(p.length:Int)+1):=by omega
    replace hS2:=Zaa hS2
    clear hlt
    go_wp2_with (first|((with_reducible refine Zac 221 ?_);refine Zcl 1 0 H rfl rfl rfl ?_)|((with_reducible refine Zae 3 ?_);refine ZgV H ?_;clear H;intro g6 w6 H q7 q8)|((with_reducible refine Zab 3 ?_);refine Zbj 0 H rfl rfl rfl ?_;clear H;intro w7 H)|((with_reducible refine Zbe 121 ?_);refine ZaI (ZbT _ z (.func 159) #[] #[.pointer (some ⟨g1,0,none⟩),.pointer (some ⟨g6,0,none⟩)] rfl rfl _) ?_)|((with_reducible refine Zab 121 ?_);refine ZaU 1 (z':=z) (f':=.func (.func 159) #[] #[.pointer (some ⟨g1,0,none⟩),.pointer (some ⟨g6,0,none⟩)]) H rfl rfl rfl rfl ?_;clear H;intro w3 H))
    refine bodyPost_ret (Zaf rfl _ _ _ _ rfl (ZcI (H.get 1 rfl))) rfl ?_
    have hb:=H.below
    have k1:=H.get 2 rfl
    have k2:=H.get 0 rfl
    have hnd:=H.nd
    simp only [List.map_cons,List.map_nil,List.set_cons_zero,List.set_cons_succ,List.nodup_cons,List.mem_cons,List.not_mem_nil,or_false,not_or] at hnd
    have hq:=hcsH.out.below hb
    have l1:=(Array.getElem?_eq_some_iff.1 k1).1
    have l2:=(Array.getElem?_eq_some_iff.1 k2).1
    refine⟨z,_,rfl,⟨?_,hz,159,_,rfl,clo61,fun W v I m hK hr hv hl hm=>?_⟩,hb⟩
    ·have e:(sqn (p++[c])).n=ZbJ (p++[c]):=by
      show max 1 (ZbJ (p++[c]))=_
      rw [hsp];simp only [ZbJ];omega
     rw [e]
     exact hS2.out
    ·refine seq1_any g1 g6 _ p c b W v I m (hK.get k1 (fun h=>by have:=hR _ h;omega)) (hK.get k2 (fun h=>by have:=hR _ h;omega)) (fun e=>hnd.1.2 e.symm) (hq.mono hK (fun k hk=>hv k hk)) ⟨fun h=>?_,fun h=>?_⟩ hr hl hm
     ·rcases hv _ h with h|h
      ·have:=hR _ h;omega
      ·omega
     ·rcases hv _ h with h|h
      ·have:=hR _ h;omega
      ·omega
end
section
open Go.RowKit
theorem ZlC:∀ l:List Cd,l.length<=cpN l
 | []=>Nat.le_refl _
 | c::r=>by have:=ZlC r;simp only [List.length_cons,cpN];omega
theorem cpN_take (l:List Cd)(k:Nat):cpN (l.take k)<=cpN l:=by
 have:=ZdU (l.take k) (l.drop k)
 rw [List.take_append_drop] at this
 omega
set_option maxRecDepth 100000 in
theorem cho1_any (gp gl:Nat)(sv:Value)(p:List Cd)(c:Cd)(b:Nat)(hb0:b<=2000000)(W:World)(v:Value)(I:List Ins)(m:Nat)(hgp:W.heap[gp]?=some (.cells #[sv] 221 (0,0)))(hgl:W.heap[gl]?=some (.cells #[.int .i64 (p.length:Int)] 3 (0,0)))(hne:gp≠gl)(hcs:CsV b (fun k=>v.ownBlock=some k) W sv (p++[c]))(hn:v.ownBlock≠some gp/\v.ownBlock≠some gl)(hr:RI W v I)(hl:I.length+chN (p++[c])<=100000)(hm:m<=100000) :
  Calls Tryz.prog 207 #[v,.int .i64 ((m:Nat):Int),.pointer (some ⟨gp,0,none⟩),.pointer (some ⟨gl,0,none⟩)] W (PutE W v (I++chP (p++[c]) I.length m)):=by
 obtain⟨g,cp,rfl,hcp,hcm,hgs,hRg⟩:=hcs.val2 (by simp)
 have hpl:(p++[c]).length=p.length+1:=by simp
 rw [hpl] at hgp hcp hcs
 have H:=St.ro2 hgp hgl hne
 have hsum:I.length+cpN p+c.n<=100000:=by rw [Zf2] at hl;omega
 have hplen:=ZlC p
 unfold maxLen at hcm
 have hP:PI W v W v I:=⟨hr,But.refl _ _,fun k hk=>.inl hk⟩
 obtain⟨a,cv,hv⟩:=hr.val
 have hP2:Hid (PI W v W (.slice a I.length cv) I):=hv ▸ hP
 have hIl:Hid (I.length=I.length+cpN (p.take 0)):=by simp [Hid,cpN]
 rw [Zjk]
 have hcs':=Zaa hcs
 replace hgp:=Zaa hgp
 replace hgl:=Zaa hgl
 replace hn:=Zaa hn
 have hvs:Hid (v=.slice a I.length cv):=hv
 generalize hJ:I++(cpP p I.length m++c.put (I.length+cpN p) m)=J
 replace hJ:=Zaa hJ
 clear hcs hr hl hv hP
 have i1:(p.length:Int)<=(cp:Int):=by omega
 have i2:(0:Int)<=(p.length:Int):=by omega
 have i0:(p.length:Int)<(p.length:Int)+1:=by omega
 go_enter Tryz.func207,Tryz.ntmps207
 rw [hvs.out]
 go_wp2_with (first|((with_reducible refine Zac 221 ?_);refine Zcl 0 0 H rfl rfl rfl ?_)|((with_reducible refine Zac 3 ?_);refine Zax 1 0 H (v:=.int .i64 (p.length:Int)) rfl rfl rfl ?_))
 clear H
 go_loopw [0,13] (fun uv iv wr=>∃ (k n:Nat) (ua:Option Addr) (uc:Nat),k<=p.length/\iv=.int .i64 (k:Int)/\uv=.slice ua n uc/\Hid (n=I.length+cpN (p.take k))/\Hid (PI W v wr (.slice ua n uc) (I++cpP (p.take k) I.length m))) (fun _ iv _=>p.length - (intOf iv).toNat)
 case atStart=>exact⟨0,I.length,a,cv,Nat.zero_le _,rfl,rfl,hIl,by simpa [cpP,Hid] using hP2.out⟩
 case round =>
  obtain⟨k,n,ua,uc,hk,rfl,rfl,hnk,hPk⟩:=hrel
  have H:=St.ro2 (hPk.out.kp.get hgp.out hn.out.1) (hPk.out.kp.get hgl.out hn.out.2) hne
  have hkp:=Zaa hPk.out.kp
  by_cases hlt:k<p.length
  ·have i3:(k:Int)<(p.length:Int):=by omega
   obtain⟨ck,hck⟩:∃ ck,p[k]?=some ck:=⟨_,List.getElem?_eq_getElem hlt⟩
   obtain⟨z,f,C,cells⟩:=hcs'.out.at2 (k:=k) (c:=ck) (by rw [List.getElem?_append_left hlt];exact hck)
   obtain⟨c0,c1⟩:=cells wr hkp.out
   have hf1:=C.put.one
   have ht:=ZcJ hck
   have hs1:cpN (p.take (k+1))=cpN (p.take k)+(1+ck.n):=by rw [ht,ZdU];simp [cpN]
   have hs2:=cpN_take p (k+1)
   obtain rfl:z=ck.n:=C.sz.exact (by unfold cap;omega)
   have hn1:=hnk.out
   obtain⟨n0,hn0⟩:∃ n0,n0=n+1:=⟨_,rfl⟩
   obtain⟨n1,hn2⟩:∃ n1,n1=n0+ck.n:=⟨_,rfl⟩
   have hb1:n+(1+ck.n)<=100000:=by omega
   have hb2:n1<=100000:=by omega
   have hnk2:Hid (n1=I.length+cpN (p.take (k+1))):=by show n1=_;omega
   have e0:IntKind.i64.wrap ((n:Int)+1)=(n0:Int):=by rw [IntKind.wrap_i64];omega
   have e1:IntKind.i64.wrap ((n0:Int)+(ck.n:Int))=(n1:Int):=by rw [IntKind.wrap_i64];clear e0;omega
   have hld:=Zaa (Zjq c0 c1)
   have hJl:(I++cpP (p.take k) I.length m).length=n:=by rw [List.length_append,Zf3,hn1]
   have OP:Hid (∀ w3,Below wr.heap.size wr w3->Calls Tryz.prog 205 #[cdV ck.n f,.int .i64 (n1:Int)] w3 (CodeP (b+1) (fun j=>(Value.slice ua n uc).ownBlock=some j) w3 (opt ck n1))):=fun w3 hb =>
    ZdX _ ck.n f ck n1 w3 b hb0 (C.mono (hkp.out.below hb) (fun j hj=>hPk.out.own j hj)) (fun j hj=>(hPk.out.row.below hb).lt hj)
   have hPb:Hid (∀ w3,Below wr.heap.size wr w3->PI W v w3 (.slice ua n uc) (I++cpP (p.take k) I.length m)):=fun w3 hb=>hPk.out.below hb
   have hJ1:Hid (I++cpP (p.take (k+1)) I.length m=I++cpP (p.take k) I.length m++(opt ck n1).put (I++cpP (p.take k) I.length m).length m):=by
    show _=_
    rw [hJl,ht,Zjl,<- List.append_assoc,<- hn1,hn2,hn0]
   have hltH:=Zaa hlt
   have hJlH:=Zaa hJl
   replace C:=Zaa C
   replace cells:=Zaa cells
   replace ht:=Zaa ht
   replace hs1:=Zaa hs1
   replace hn1:=Zaa hn1
   replace hn2:=Zaa hn2
   replace hn0:=Zaa hn0
   clear c0 c1 hJl
   go_wp2_with (first|((with_reducible refine Zac 121 ?_);first|(refine Zep 0 H rfl rfl ?_)|(refine Zau 121 rfl hld.out ?_))|((with_reducible refine Zae 121 ?_);refine ZaS H ?_;clear H;intro g8 w8 H q5 q6)|((with_reducible refine Zab 121 ?_);refine ZaU 0 H rfl rfl rfl hf1 ?_;clear H;intro w9 H)|((with_reducible refine Zac 3 ?_);refine Zax 0 0 H (v:=.int .i64 (ck.n:Int)) rfl rfl rfl ?_))
   have hb9:=H.below
   refine (OP.out _ hb9).mono ?_
   rintro e w10 ⟨z1,f1,rfl,C1,B1⟩
   obtain⟨nf,caps,rfl,hcl,PF⟩:=C1.put
   have hPI:=(hPb.out _ hb9).below B1
   have PP:=Zaa (PF w10 _ _ m (Kp.refl _ _) hPI.row (fun j hj=>.inl hj) (by rw [hJlH.out];exact hb1) hm)
   rw [<- hJ1.out] at PP
   replace hPI:=Zaa hPI
   replace PF:=Zaa PF
   replace C1:=Zaa C1
   clear H hb9 B1
   go_wp2_with (first|((with_reducible refine Zeq 121 ?_);refine ZaI (Zdo _ z1 (.func (.func nf) #[] caps) rfl _) ?_)|((with_reducible refine Zdj ?_);refine Zdm (u1:=.slice ua n uc) (u2:=.int .i64 (m:Int)) rfl rfl rfl hcl ?_))
   refine PP.out.mono ?_
   rintro e w11 hE
   obtain⟨u',rfl,he⟩:=hE
   have hPn:=Zaa (hPI.out.put ⟨u',rfl,he⟩)
   obtain⟨ua',uc',rfl⟩:=hPn.out.row.val
   have hl2:(I++cpP (p.take (k+1)) I.length m).length=n1:=by rw [List.length_append,Zf3,<- hnk2.out]
   rw [hl2] at hPn ⊢
   refine⟨_,rfl,?_⟩
   clear he
   go_wp2_with fail
   go_roundw
   case rel=>exact⟨k+1,n1,ua',uc',hltH.out,by go_num,rfl,hnk2,hPn⟩
   case measure=>have:=hltH.out;simp [intOf];omega
  ·obtain rfl:k=p.length:=by omega
   obtain⟨z,f,C,cells⟩:=hcs'.out.at2 (k:=p.length) (c:=c) (by simp)
   obtain⟨c0,c1⟩:=cells wr hkp.out
   obtain⟨nf,caps,rfl,hcl,PF⟩:=C.put
   have hn1:=hnk.out
   rw [List.take_length] at hn1 hPk
   have hb1:n+c.n<=100000:=by omega
   have hJl:(I++cpP p I.length m).length=n:=by rw [List.length_append,Zf3,hn1]
   have PP:Hid (Calls Tryz.prog nf (#[.slice ua n uc,.int .i64 (m:Int)]++caps) wr (PutE wr (.slice ua n uc) J)):=by
    have:=PF wr (.slice ua n uc) _ m hkp.out hPk.out.row (fun j hj=>hPk.out.own j hj) (hJl.symm ▸ hb1) hm
    rw [hJl] at this
    rw [<- hJ.out,<- List.append_assoc,<- hn1]
    exact this
   have hld:=Zaa (ld52 c1)
   replace PF:=Zaa PF
   replace C:=Zaa C
   replace cells:=Zaa cells
   replace hn1:=Zaa hn1
   replace hJl:=Zaa hJl
   clear c0 c1 hlt
   go_wp2_with (first|((with_reducible refine Zac 221 ?_);refine Zcl 0 0 H rfl rfl rfl ?_)|((with_reducible refine Zac 3 ?_);refine Zax 1 0 H (v:=.int .i64 (p.length:Int)) rfl rfl rfl ?_)|((with_reducible refine Zac 119 ?_);refine Zau 119 rfl hld.out ?_)|((with_reducible refine Zdj ?_);refine Zdm (u1:=.slice ua n uc) (u2:=.int .i64 (m:Int)) rfl rfl rfl hcl ?_))
   refine PP.out.mono ?_
   rintro e w10 ⟨u',rfl,he⟩
   have fin:=Zaa (hPk.out.putE ⟨u',rfl,he⟩)
   refine⟨u',rfl,?_⟩
   clear he H
   go_wp2_with fail
   go_ret
   rw [<- hvs.out]
   exact fin.out
end
section
open Go.RowKit
set_option maxRecDepth 100000 in
theorem Zkp (R:Nat->Prop)(sv:Value)(cs:List Cd)(w:World)(hcs:CsV cap R w sv cs)(hlen:cs.length<=100000)(hR:∀ k,R k->k<w.heap.size):Calls Tryz.prog 161 #[sv] w (CodeP cap R w (chc cs)):=by
 have H:=St.start Nope w
 rcases Nat.eq_zero_or_pos cs.length with h0|h0
 ·obtain rfl:cs=[]:=List.eq_nil_of_length_eq_zero h0
  obtain⟨a,c,rfl,_⟩:=hcs.val
  replace hcs:=Zaa hcs
  simp only [List.length_nil]
  go_enter Tryz.func161,Tryz.ntmps161
  go_wp2_with (first|((with_reducible refine Zar 221 ?_);refine Zer H rfl ?_;clear H;intro g1 w1 H q1 q2)|((with_reducible refine Zae 121 ?_);refine ZaS H ?_;clear H;intro g2 w2 H q3 q4)|((with_reducible refine Zac 221 ?_);refine Zcl 1 0 H rfl rfl rfl ?_)|((with_reducible refine Zbe 182 ?_);refine ZaI (Zdn _ 1 rfl _) ?_))
  have hb:=H.below
  have hlt:=H.lti 0 rfl
  refine (ZdW (fun k=>R k\/k=g2) ⟨1,noSet,0,0⟩ _ (fun k hk=>by have:=hb.size;rcases hk with hk|hk;have:=hR k hk;omega;omega)).mono ?_
  rintro e w3 ⟨z,f,rfl,C,B3⟩
  obtain⟨nf,caps,hf,_⟩:=C.put
  subst hf
  have BB:=H.below.trans (B3.mono H.below.size)
  have H3:=(H.call B3 (Nat.le_refl _)).only
  clear H
  replace C:=Zaa C
  go_wp2_with (first|((with_reducible refine Zab 121 ?_);refine ZaU 0 (z':=z) (f':=.func (.func nf) #[] caps) H3 rfl rfl rfl rfl ?_;clear H3;intro w4 H3))
  refine bodyPost_ret (Zaf rfl _ _ _ _ rfl (ZcI (H3.get 0 rfl))) rfl ?_
  exact CodeP.stored BB (C.out.congr rfl (fun a m=>rfl)) H3.but q3
 ·obtain⟨p,c,rfl⟩:=Zjt cs h0
  have hpl:(p++[c]).length=p.length+1:=by simp
  obtain⟨g,cp,rfl,hcp,hcm,hgs,hRg⟩:=hcs.val2 h0
  rw [hpl] at hcp hcs hlen ⊢
  unfold maxLen at hcm
  have hz0:((p.length:Int)+1 == 0)=false:=beq_eq_false_iff_ne.2 (by omega)
  have e0:IntKind.i64.wrap ((p.length:Int)+1 - 1)=(p.length:Int):=by rw [IntKind.wrap_i64];omega
  have i1:(p.length:Int)<=(cp:Int):=by clear e0;omega
  have i2:(0:Int)<=(p.length:Int):=by clear e0;omega
  have i0:(p.length:Int)<(p.length:Int)+1:=by clear e0;omega
  obtain⟨zl,fl,Cl,cellsl⟩:=hcs.at2 (k:=p.length) (c:=c) (by simp)
  have hcsH:=Zaa hcs
  have hzl:=Cl.le
  have hzl2:zl<=1048576:=hzl
  have hSl:=Zaa Cl.sz
  have hc0:Hid (∀ w',Below w.heap.size w w'->w'.cell? ⟨g,p.length * 2,none⟩=some (.int .i64 (zl:Int))):=fun w' hb=>(cellsl w' ((Kp.refl _ _).below hb)).1
  clear hcs h0 Cl cellsl hzl
  go_enter Tryz.func161,Tryz.ntmps161
  go_wp2_with (first|((with_reducible refine Zar 221 ?_);refine Zer H rfl ?_;clear H;intro g1 w1 H q1 q2)|((with_reducible refine Zae 121 ?_);refine ZaS H ?_;clear H;intro g2 w2 H q3 q4)|((with_reducible refine Zae 3 ?_);refine ZgV H ?_;clear H;intro g3 w3 H q5 q6)|((with_reducible refine Zab 3 ?_);refine Zbj 0 (v:=(p.length:Int)) H rfl rfl rfl ?_;clear H;intro w4 H)|((with_reducible refine Zac 221 ?_);first|(refine Zcl 2 0 H rfl rfl rfl ?_)|(refine Zcl 1 0 H rfl rfl rfl ?_))|((with_reducible refine Zac 3 ?_);first|(refine Zax 0 0 H (v:=.int .i64 (p.length:Int)) rfl rfl rfl ?_)|(refine Zau 3 rfl (ld3 (hc0.out _ H.below)) ?_)))
  go_loopw [4,24] (fun zv iv wr=>∃ (k z:Nat),k<=p.length/\iv=.int .i64 (k:Int)/\zv=.int .i64 (z:Int)/\z<=1048576/\Hid (SzOk z (c.n+cpN (p.take k)))/\Hid (St Nope w wr [(true,g3,3,#[.int .i64 (p.length:Int)]),(true,g2,121,cdA 0 .nilFunc),(true,g1,221,#[.slice (some ⟨g,0,none⟩) (p.length+1) cp])])) (fun _ iv _=>p.length - (intOf iv).toNat)
  case atStart=>exact⟨0,zl,Nat.zero_le _,rfl,rfl,hzl2,by simpa [cpN,Hid] using hSl.out,H⟩
  case round =>
   clear H
   obtain⟨k,z,hk,rfl,rfl,hz,hS,H⟩:=hrel
   replace H:=H.out
   by_cases hlt:k<p.length
   ·have i3:(k:Int)<(p.length:Int):=by clear e0;omega
    obtain⟨ck,hck⟩:∃ ck,p[k]?=some ck:=⟨_,List.getElem?_eq_getElem hlt⟩
    obtain⟨zk,f,C,cells⟩:=hcsH.out.at2 (k:=k) (c:=ck) (by rw [List.getElem?_append_left hlt];exact hck)
    obtain⟨c0,c1⟩:=cells wr ((Kp.refl _ _).below H.below)
    have hf1:=C.put.one
    have hzk:zk<=1048576:=C.le
    obtain⟨s0,hs0⟩:∃ s0,s0=z+1:=⟨_,rfl⟩
    obtain⟨s1,hs1⟩:∃ s1,s1=s0+zk:=⟨_,rfl⟩
    obtain⟨m1,hm1⟩:∃ m1,m1=min s1 1048576:=⟨_,rfl⟩
    obtain⟨f1,f2,f3⟩:=ZgW s1 m1 hm1
    have hm2:m1<=1048576:=hm1 ▸ Nat.min_le_right _ _
    have hS2:Hid (SzOk m1 (c.n+cpN (p.take (k+1)))):=by
     have h1:=hS.out.add1 C.sz
     have h2:cpN [ck]=1+ck.n:=rfl
     show SzOk m1 _
     rw [ZcJ hck,ZdU,hm1,hs1,hs0,h2,<- Nat.add_assoc]
     exact h1
    have e1:IntKind.i64.wrap ((z:Int)+1)=(s0:Int):=by rw [IntKind.wrap_i64];clear e0 f1 f2 f3;omega
    have e2:IntKind.i64.wrap ((s0:Int)+(zk:Int))=(s1:Int):=by rw [IntKind.wrap_i64];clear e0 e1 f1 f2 f3;omega
    have hld:=Zaa (Zjq c0 c1)
    have hltH:=Zaa hlt
    replace C:=Zaa C
    replace cells:=Zaa cells
    replace hs0:=Zaa hs0
    replace hs1:=Zaa hs1
    replace hm1:=Zaa hm1
    clear c0 c1
    go_wp2_with (first|((with_reducible refine Zac 121 ?_);refine Zau 121 rfl hld.out ?_)|((with_reducible refine Zae 121 ?_);refine ZaS H ?_;clear H;intro g8 w8 H q5 q6)|((with_reducible refine Zab 121 ?_);refine ZaU 0 H rfl rfl rfl hf1 ?_;clear H;intro w9 H)|((with_reducible refine Zac 3 ?_);refine Zax 0 0 H (v:=.int .i64 (zk:Int)) rfl rfl rfl ?_))
    go_roundw
    case rel=>exact⟨k+1,m1,hltH.out,by go_num,rfl,hm2,hS2,H.tail⟩
    case measure=>have:=hltH.out;simp [intOf];omega
   ·obtain rfl:k=p.length:=by omega
    have hS2:SzOk z (chN (p++[c])):=by
     have:=hS.out
     rw [List.take_length] at this
     rw [Zf2,Nat.add_comm]
     exact this
    have i4:¬ ((p.length:Int)<(p.length:Int)):=by clear e0;omega
    replace hS2:=Zaa hS2
    clear hlt
    go_wp2_with (first|((with_reducible refine Zbe 121 ?_);refine ZaI (ZbT _ z (.func 207) #[] #[.pointer (some ⟨g1,0,none⟩),.pointer (some ⟨g3,0,none⟩)] rfl rfl _) ?_)|((with_reducible refine Zab 121 ?_);refine ZaU 1 (z':=z) (f':=.func (.func 207) #[] #[.pointer (some ⟨g1,0,none⟩),.pointer (some ⟨g3,0,none⟩)]) H rfl rfl rfl rfl ?_;clear H;intro w9 H))
    refine bodyPost_ret (Zaf rfl _ _ _ _ rfl (ZcI (H.get 1 rfl))) rfl ?_
    have hb:=H.below
    have k1:=H.get 2 rfl
    have k2:=H.get 0 rfl
    have hnd:=H.nd
    simp only [List.map_cons,List.map_nil,List.set_cons_zero,List.set_cons_succ,List.nodup_cons,List.mem_cons,List.not_mem_nil,or_false,not_or] at hnd
    have hq:=hcsH.out.below hb
    have l1:=(Array.getElem?_eq_some_iff.1 k1).1
    have l2:=(Array.getElem?_eq_some_iff.1 k2).1
    clear e0
    refine⟨z,_,rfl,⟨hS2.out,hz,207,_,rfl,clo82,fun W v I m hK hr hv hl hm=>?_⟩,hb⟩
    refine cho1_any g1 g3 _ p c cap (by decide) W v I m (hK.get k1 (fun h=>by have:=hR _ h;omega)) (hK.get k2 (fun h=>by have:=hR _ h;omega)) (fun e=>hnd.1.2 e.symm) (hq.mono hK (fun k hk=>hv k hk)) ⟨fun h=>?_,fun h=>?_⟩ hr hl hm
    ·rcases hv _ h with h|h
     ·have:=hR _ h;omega
     ·omega
    ·rcases hv _ h with h|h
     ·have:=hR _ h;omega
     ·omega
end
section
open Go.RowKit Go.Shelf Go.Lib
shelf_lay Lays.n212 Nm 212 at Tryz as Tryz.laysMU
theorem ZlD (x y:Nat)(hx:x<18446744073709551616)(hy:y<18446744073709551616)(w:World):Calls Tryz.prog 187 #[.int .u64 x,.int .u64 y] w fun e w'=>e=.returned (.tuple #[.int .u64 ((x * y / 18446744073709551616:Nat):Int),.int .u64 ((x * y % 18446744073709551616:Nat):Int)])/\w'=w :=
 Any.bits_Mul Tryz.laysMU x y hx hy w
theorem infoC:∃ i,Tryz.prog.info? 121=some i/\i.zero=some (cdV 0 .nilFunc)/\i.size=2/\i.bytes=16:=by
 have h:(Tryz.prog.info? 121).map (fun i=>(i.zero,i.size,i.bytes))=some (some (cdV 0 .nilFunc),2,16):=by kernel_rfl
 cases hi:Tryz.prog.info? 121 with
 | none=>rw [hi] at h;cases h
 | some i =>
  rw [hi] at h
  simp only [Option.map_some,Option.some.injEq,Prod.mk.injEq] at h
  exact⟨i,rfl,h.1,h.2.1,h.2.2⟩
theorem ZgX (w:World)(ty:TypeId)(g o dLen dCap:Nat)(a:Addr)(sLen sCap:Nat)(cur:Array Value)(cs:List Value)(hg:w.heap[g]?=some (.cells cur 121 (0,0)))(hn:cs.length=Nat.min sLen dLen * 2)
  (hsrc:∀ j v,cs[j]?=some v->w.cell? (a.add j)=some v) (hfit:o+cs.length<=cur.size) (h1:∀ v ∈ cs,v.oneCell'=true) :
  (Builtin.copy_ #[221,221] ty #[.slice (some ⟨g,o,none⟩) dLen dCap,.slice (some a) sLen sCap]).run Tryz.prog w =
   .ok (goInt (Nat.min sLen dLen)) (w.setRow g (cur.toList.take o++cs++cur.toList.drop (o+cs.length)).toArray):=by
 have hl:=run_loadCells_list (P:=Tryz.prog) w a cs hsrc
 have hst:=run_storeCells_at Tryz.prog g o 121 cs 0 cur w hg (by simpa using hfit) h1
 obtain⟨i,hi,_,hs,_⟩:=infoC
 simp [Builtin.copy_,run_underlying Tryz.underlying221,Builtin.lenOf,Builtin.firstCells,sizeOf,typeInfo,hi,hs,<- hn,hl,hst]
def rp2 (x y:Value):Nat->List Value
 | 0=>[]
 | k+1=>x::y::rp2 x y k
theorem ZbU (x y:Value):∀ k,(rp2 x y k).length=k * 2
 | 0=>rfl
 | k+1=>by simp [rp2,ZbU x y k];omega
theorem ZdY (x y:Value):∀ k j,rp2 x y (k+j)=rp2 x y k++rp2 x y j
 | 0,j=>by simp [rp2]
 | k+1,j=>by rw [show k+1+j=k+j+1 by omega];simp [rp2,ZdY x y k j]
theorem Zf6 (x y:Value):∀ k,∀ v ∈ rp2 x y k,v=x\/v=y
 | 0,v,h=>by simp [rp2] at h
 | k+1,v,h=>by
  simp only [rp2,List.mem_cons] at h
  rcases h with h|h|h
  ·exact .inl h
  ·exact .inr h
  ·exact Zf6 x y k v h
theorem made2 (n:Nat):(madeCells (cdV 0 .nilFunc).cells (n * 2)).toList=rp2 (.int .i64 0) .nilFunc n:=by
 apply List.ext_getElem?
 intro j
 have h1:∀ n j,j<n * 2->(rp2 (.int .i64 0) .nilFunc n)[j]?=some (if j % 2=0 then .int .i64 0 else .nilFunc):=fun n=>by
  induction n with
  | zero=>intro j h;omega
  | succ n ih =>
   intro j h
   match j with
   | 0=>rfl
   | 1=>rfl
   | j+2 =>
    simp only [rp2,List.getElem?_cons_succ]
    rw [ih j (by omega)]
    simp
 by_cases hj:j<n * 2
 ·rw [h1 n j hj]
  rcases (show j % 2=0\/j % 2=1 by omega) with h|h
  ·simp [madeCells,hj,h,cdV,cdA,Value.cells]
  ·simp [madeCells,hj,h,cdV,cdA,Value.cells]
 ·rw [List.getElem?_eq_none (by simp [madeCells];omega),List.getElem?_eq_none (by rw [ZbU];omega)]
section
variable {S:Nat->Prop}{w0 w w':World}{L:List Ent}{ops:Array Oper}{rest:List Oper}{o:Oper}{a:Act}{Q:Exit->Act->World->Prop}{K:Act->World->Prop}{E:Prop}{dst:Option Nat}{x y:Operand}{ty:TypeId}{pos:String}{after:Array Edge}
theorem Zij (t:TypeId)(h:wpList Tryz.prog ops Q (⟨dst,.makeSlice t x y,ty,pos,after,none⟩::rest) a w):wpList Tryz.prog ops Q (⟨dst,.makeSlice t x y,ty,pos,after,none⟩::rest) a w:=h
theorem ZeI {n:Nat}(hn:n<=1000000)(hx:a.eval x=.int .i64 (n:Int))(hy:a.eval y=.int .i64 (n:Int))(k:∀ g w2,g=w.heap.size->w2.heap[g]?=some (.cells (rp2 (.int .i64 0) .nilFunc n).toArray 121 (0,0))->Below w.heap.size w w2->wpList Tryz.prog ops Q rest (a.put dst (.slice (some ⟨g,0,none⟩) n n)) w2) :
  wpList Tryz.prog ops Q (⟨dst,.makeSlice 221 x y,ty,pos,after,none⟩::rest) a w:=by
 obtain⟨i,hi,hz,hs,hb⟩:=infoC
 have hr:=run_make (P:=Tryz.prog) w 221 121 i (cdV 0 .nilFunc) Tryz.underlying221 hi hz .i64 .i64 (n:Int) (n:Int) (by omega) (Int.le_refl _) (by rw [hb];omega) (by omega)
 refine ZaI (w':=w.alloc (.cells (madeCells (cdV 0 .nilFunc).cells (n * 2)) 121)) ?_ (k _ _ rfl (by rw [heap_alloc_new,<- made2 n]) ((Below.refl _ w).alloc (Nat.le_refl _) _))
 unfold execOp
 simp only [hx,hy,Sem.run_bind,hr,Result.andThen_ok,Sem.run_pure,Int.toNat_natCast,hs]
theorem at_copy (h:wpList Tryz.prog ops Q (⟨dst,.call { callee:=.builtin .copy,args:=#[x,y],argTypes:=#[221,221] },ty,pos,after,none⟩::rest) a w):wpList Tryz.prog ops Q (⟨dst,.call { callee:=.builtin .copy,args:=#[x,y],argTypes:=#[221,221] },ty,pos,after,none⟩::rest) a w:=h
theorem ZlE {v1 v2 u:Value}(hx:a.eval x=v1)(hy:a.eval y=v2)(hr:(Builtin.copy_ #[221,221] ty #[v1,v2]).run Tryz.prog w=.ok u w')(h:wpList Tryz.prog ops Q rest (a.put dst u) w'):wpList Tryz.prog ops Q (⟨dst,.call { callee:=.builtin .copy,args:=#[x,y],argTypes:=#[221,221] },ty,pos,after,none⟩::rest) a w:=by
 refine ZaI ?_ h
 simp [execOp,resolve,invoke,builtin,hx,hy,hr,Result.andThen]
theorem Zik (hgd:o.guard=none)(s x:Operand)(ho:o.op=.call { callee:=.builtin .copy,args:=#[s,x],argTypes:=#[221,221] })(v1 v2 v':Value)(w':World)(hs:a.eval s=v1)(hx:a.eval x=v2)
  (hr:(Builtin.copy_ #[221,221] o.type #[v1,v2]).run Tryz.prog w=.ok v' w') (h:K (a.put o.dst v') w') :
  if Region.wanted o (yielded ops a.tmps)=true then Oper.wp Tryz.prog o a w K Q else E:=by
 have hw:Region.wanted o (yielded ops a.tmps)=true:=by simp [Region.wanted,hgd]
 rw [if_pos hw]
 unfold Oper.wp
 simp [execOp,ho,resolve,invoke,builtin,hs,hx,hr,Result.andThen]
 exact h
end
structure RpI (w:World) (g n:Nat) (x f:Value) (m:Nat) (W:World):Prop where
 row:W.heap[g]?=some (.cells (rp2 x f m++rp2 (.int .i64 0) .nilFunc (n - m)).toArray 121 (0,0))
 bel:Below w.heap.size w W
 le:w.heap.size<=g
theorem RpI.copy {w W:World}{g n m:Nat}{x f:Value}(hx:x.oneCell'=true)(hf:f.oneCell'=true)(h:RpI w g n x f m W)(hm:m<n)(ty:TypeId):∃ W',(Builtin.copy_ #[221,221] ty #[.slice (some ⟨g,m * 2,none⟩) (n - m) (n - m),.slice (some ⟨g,0,none⟩) m n]).run Tryz.prog W=.ok (goInt (Nat.min m (n - m))) W'/\RpI w g n x f (m+Nat.min m (n - m)) W':=by
 obtain⟨k,hk⟩:∃ k,k=Nat.min m (n - m):=⟨_,rfl⟩
 have hk1:k<=m:=by rw [hk];exact Nat.min_le_left _ _
 have hk2:k<=n - m:=by rw [hk];exact Nat.min_le_right _ _
 have hl:(rp2 x f k).length=k * 2:=ZbU x f k
 refine⟨_,ZgX W ty g (m * 2) (n - m) (n - m) ⟨g,0,none⟩ m n _ (rp2 x f k) h.row (by rw [hl,hk]) (fun j v hj=>?_) (by simp [ZbU];omega) (fun v hv=>by rcases Zf6 x f k v hv with rfl|rfl;exact hx;exact hf),?_,?_,h.le⟩
 ·rw [Zav,Nat.zero_add,cell_of_row W g j _ 121 (0,0) h.row]
  have e:rp2 x f m=rp2 x f k++rp2 x f (m - k):=by rw [<- ZdY];congr 1;omega
  rw [e,List.append_assoc]
  have hj':=(List.getElem?_eq_some_iff.1 hj).1
  simp only [List.getElem?_toArray]
  rw [List.getElem?_append_left hj']
  exact hj
 ·rw [<- hk]
  rw [setRow_heap W g _ _ 121 (0,0) h.row]
  have e:rp2 (.int .i64 0) .nilFunc (n - m)=rp2 (.int .i64 0) .nilFunc k++rp2 (.int .i64 0) .nilFunc (n - (m+k)):=by rw [<- ZdY];congr 1;omega
  have l1:=ZbU x f m
  have l2:=ZbU (.int .i64 0) .nilFunc k
  congr 2
  rw [ZdY,e,List.append_assoc]
  simp only [List.toList_toArray]
  rw [List.take_append_of_le_length (by omega),List.take_of_length_le (by omega)]
  rw [List.drop_append,List.drop_append]
  simp [l1,l2,hl]
  rw [List.drop_eq_nil_of_le (by omega),List.drop_eq_nil_of_le (by omega)]
  simp
 ·exact h.bel.trans ⟨rfl,rfl,rfl,by simp [World.setRow],fun j hj=>setRow_other W g j _ (by have:=h.le;omega)⟩
set_option maxRecDepth 100000 in
theorem Zfu (w:World)(gs z:Nat)(f:Value)(n:Nat)(hn:n<=1000)(hf:f.oneCell'=true)(hgs:w.heap[gs]?=some (.cells (cdA z f) 121 (0,0))) :
  Calls Tryz.prog 203 #[.slice (some ⟨gs,0,none⟩) 1 1,.int .i64 (n:Int)] w fun e w'=>∃ g,e=.returned (.slice (some ⟨g,0,none⟩) n n)/\w.heap.size<=g/\w'.heap[g]?=some (.cells (rp2 (.int .i64 (z:Int)) f n).toArray 121 (0,0))/\Below w.heap.size w w':=by
 have hgl:=(Array.getElem?_eq_some_iff.1 hgs).1
 have hu:(IntKind.u64.wrap (n:Int))=(n:Int):=by rw [IntKind.wrap_u64];omega
 have hu2:(IntKind.i64.wrap (n:Int))=(n:Int):=by rw [IntKind.wrap_i64];omega
 have n1:¬ ((n:Int)<0):=by omega
 have MU:=Zaa (ZlD 1 n (by omega) (by omega) w)
 rw [show 1 * n / 18446744073709551616=0 by omega,show 1 * n % 18446744073709551616=n by omega] at MU
 have m1:¬ ((9223372036854775807:Int)<(n:Int)):=by omega
 obtain⟨m0,hm0⟩:∃ m0,m0=Nat.min 1 n:=⟨_,rfl⟩
 replace hgs:=Zaa hgs
 go_enter Tryz.func203,Tryz.ntmps203
 go_wp2_with fail
 refine MU.out.mono ?_
 rintro e w1 ⟨rfl,rfl⟩
 have hq:Hid (∀ (g:Nat) (w2:World) (ty:TypeId),g=w1.heap.size->w2.heap[g]?=some (.cells (rp2 (.int .i64 0) .nilFunc n).toArray 121 (0,0))->Below w1.heap.size w1 w2->∃ w3,(Builtin.copy_ #[221,221] ty #[.slice (some ⟨g,0,none⟩) n n,.slice (some ⟨gs,0,none⟩) 1 1]).run Tryz.prog w2=.ok (.int .i64 (m0:Int)) w3/\RpI w1 g n (.int .i64 (z:Int)) f m0 w3):=fun g w2 ty hg hrow B2=>by
  have hl:(rp2 (.int .i64 (z:Int)) f m0).length=m0 * 2:=ZbU _ _ _
  have hm1:m0<=1:=by rw [hm0];exact Nat.min_le_left _ _
  have hm2:m0<=n:=by rw [hm0];exact Nat.min_le_right _ _
  have hc:=ZgX w2 ty g 0 n n ⟨gs,0,none⟩ 1 1 _ (rp2 (.int .i64 (z:Int)) f m0) hrow (by rw [hl,hm0]) (fun j v hj=>by
   rw [Zav,Nat.zero_add,cell_of_row w2 gs j _ 121 (0,0) ((B2.block gs hgl).trans hgs.out)]
   rcases (show m0=0\/m0=1 by omega) with h|h
   ·rw [h] at hj;simp [rp2] at hj
   ·rw [h] at hj
    match j,hj with
    | 0,hj=>simpa [rp2,cdA] using hj
    | 1,hj=>simpa [rp2,cdA] using hj
    | j+2,hj=>simp [rp2] at hj) (by simp [ZbU];omega) (fun v hv=>by rcases Zf6 _ f _ v hv with rfl|rfl;rfl;exact hf)
  rw [<- hm0] at hc
  refine⟨_,hc,?_,B2.trans ⟨rfl,rfl,rfl,by simp [World.setRow],fun j hj=>setRow_other w2 g j _ (by omega)⟩,by omega⟩
  rw [setRow_heap w2 g _ _ 121 (0,0) hrow]
  have e:rp2 (.int .i64 0) .nilFunc n=rp2 (.int .i64 0) .nilFunc m0++rp2 (.int .i64 0) .nilFunc (n - m0):=by rw [<- ZdY];congr 1;omega
  have l2:=ZbU (.int .i64 0) .nilFunc m0
  congr 2
  simp only [List.take_zero,List.nil_append,Nat.zero_add]
  rw [hl,e,List.drop_append]
  simp [l2]
 have hm3:Hid (m0<=n/\(n=0\/0<m0)):=by
  show _/\_
  have h1:m0=min 1 n:=hm0
  omega
 replace hm0:=Zaa hm0
 go_wp2_with (first|((with_reducible refine Zij 221 ?_);refine ZeI (n:=n) (by omega) rfl rfl ?_;intro g w2 hg hrow B2;obtain⟨w3,hcp,hRp⟩:=hq.out g w2 3 hg hrow B2;replace hcp:=Zaa hcp;replace hRp:=Zaa hRp;replace hg:=Zaa hg;replace hrow:=Zaa hrow;replace B2:=Zaa B2)|((with_reducible refine at_copy ?_);refine ZlE rfl rfl hcp.out ?_))
 go_loopw [8] (fun mv wr=>∃ m:Nat,mv=.int .i64 (m:Int)/\m<=n/\Hid (n=0\/0<m)/\Hid (RpI w1 g n (.int .i64 (z:Int)) f m wr)) (fun mv _=>n - (intOf mv).toNat)
 case atStart=>exact⟨m0,rfl,hm3.out.1,hm3.out.2,hRp⟩
 case round =>
  obtain⟨m,rfl,hmn,hm0',hR⟩:=hrel
  by_cases hlt:m<n
  ·have i1:(m:Int)<(n:Int):=by omega
   have i2:(m:Int)<=(n:Int):=by omega
   have i3:(0:Int)<=(m:Int):=by omega
   obtain⟨w5,hcp5,hR5⟩:=(⟨hR.out.row,hR.out.bel.drew,hR.out.le⟩:RpI w1 g n (.int .i64 (z:Int)) f m wr.drew).copy rfl hf hlt 3
   have hif:(if n=m then (some ⟨g,0,none⟩:Option Addr) else some ⟨g,m * 2,none⟩)=some ⟨g,m * 2,none⟩:=if_neg (by omega)
   obtain⟨k5,hk5⟩:∃ k5,k5=Nat.min m (n - m):=⟨_,rfl⟩
   obtain⟨d5,hd5⟩:∃ d5,d5=n - m:=⟨_,rfl⟩
   rw [<- hk5] at hcp5 hR5
   have hk6:0<k5:=by
    have h1:k5=min m (n - m):=hk5
    have:=hm0'.out
    omega
   have hk7:k5<=n - m:=by rw [hk5];exact Nat.min_le_right _ _
   have e5:IntKind.i64.wrap ((m:Int)+(k5:Int))=((m+k5:Nat):Int):=by rw [IntKind.wrap_i64];omega
   replace hcp5:=Zaa hcp5
   replace hR5:=Zaa hR5
   replace hk5:=Zaa hk5
   have hltH:=Zaa hlt
   have hcopy:Hid (∀ w',w'=wr->True):=fun _ _=>trivial
   go_wp2_with fail
   refine wp_region_noPanic ?_
   refine wp_region_held_drew (S:=(fun _=>True)) (by kernel_rfl) trivial (fun hH0=>?_)
   refine wpAnyH_take (i:=0) (oi:=⟨some 38,.move (.tmp 8),3,"slices.go:528",#[],none⟩) (v:=?_) rfl (by kernel_rfl) (by kernel_rfl) (by kernel_rfl) (fun _ _ _ h=>h) (Or.inl ⟨by rfl,?_⟩) hH0 ?_
   rotate_left
   ·intro w' hw'
    obtain _:=hw'
    go_simp
    try with_reducible rfl
   try simp only [Act.put,PuA]
   refine wpAnyH_take (i:=1) (oi:=⟨some 39,.move (.tmp 7),221,"slices.go:528",#[],none⟩) (v:=?_) rfl (by kernel_rfl) (by kernel_rfl) (by kernel_rfl) (fun _ _ _ h=>h) (Or.inl ⟨by rfl,?_⟩) hH0 ?_
   rotate_left
   ·intro w' hw'
    obtain _:=hw'
    go_simp
    try with_reducible rfl
   try simp only [Act.put,PuA]
   refine wpAnyH_take (i:=2) (oi:=⟨some 40,.move (.tmp 8),3,"slices.go:528",#[],none⟩) (v:=?_) rfl (by kernel_rfl) (by kernel_rfl) (by kernel_rfl) (fun _ _ _ h=>h) (Or.inl ⟨by rfl,?_⟩) hH0 ?_
   rotate_left
   ·intro w' hw'
    obtain _:=hw'
    go_simp
    try with_reducible rfl
   try simp only [Act.put,PuA]
   refine wpAnyH_take (i:=3) (oi:=⟨some 41,.slice 221 (.tmp 39) (some (.tmp 40)) none none,221,"slices.go:528",#[⟨1,.data⟩,⟨2,.data⟩],none⟩) (v:=?_) rfl (by kernel_rfl) (by kernel_rfl) (by kernel_rfl) (fun _ _ _ h=>h) (Or.inl ⟨by rfl,?_⟩) hH0 ?_
   rotate_left
   ·intro w' hw'
    obtain _:=hw'
    go_simp
    try with_reducible rfl
   try simp only [Act.put,PuA]
   refine wpAnyH_take (i:=4) (oi:=⟨some 42,.move (.tmp 7),221,"slices.go:528",#[],none⟩) (v:=?_) rfl (by kernel_rfl) (by kernel_rfl) (by kernel_rfl) (fun _ _ _ h=>h) (Or.inl ⟨by rfl,?_⟩) hH0 ?_
   rotate_left
   ·intro w' hw'
    obtain _:=hw'
    go_simp
    try with_reducible rfl
   try simp only [Act.put,PuA]
   refine wpAnyH_take (i:=5) (oi:=⟨some 43,.move (.tmp 8),3,"slices.go:528",#[],none⟩) (v:=?_) rfl (by kernel_rfl) (by kernel_rfl) (by kernel_rfl) (fun _ _ _ h=>h) (Or.inl ⟨by rfl,?_⟩) hH0 ?_
   rotate_left
   ·intro w' hw'
    obtain _:=hw'
    go_simp
    try with_reducible rfl
   try simp only [Act.put,PuA]
   refine wpAnyH_take (i:=6) (oi:=⟨some 44,.slice 221 (.tmp 42) none (some (.tmp 43)) none,221,"slices.go:528",#[⟨4,.data⟩,⟨5,.data⟩],none⟩) (v:=?_) rfl (by kernel_rfl) (by kernel_rfl) (by kernel_rfl) (fun _ _ _ h=>h) (Or.inl ⟨by rfl,?_⟩) hH0 ?_
   rotate_left
   ·intro w' hw'
    obtain _:=hw'
    go_simp
    try with_reducible rfl
   try simp only [Act.put,PuA]
   refine wpAnyH_ready (rs:=[7]) (by kernel_rfl) (by simp) ?_
   refine AllReadyH.cons (o:=⟨some 45,.call { callee:=.builtin .copy,args:=#[.tmp 41,.tmp 44],argTypes:=#[221,221] },3,"slices.go:528",#[⟨3,.data⟩,⟨6,.data⟩],none⟩) rfl (fun K hK=>?_) AllReadyH.nil
   refine Zik rfl (.tmp 41) (.tmp 44) rfl _ _ _ _ rfl rfl hcp5.out ?_
   refine hK.out _ _ trivial (fun hH1=>?_)
   clear hK
   try simp only [Act.put,PuA]
   refine wpAnyH_take (i:=8) (oi:=⟨some 46,.binOp .add 3 (.tmp 38) (.tmp 45) 3,3,"slices.go:528",#[⟨0,.data⟩,⟨7,.data⟩],none⟩) (v:=?_) rfl (by kernel_rfl) (by kernel_rfl) (by kernel_rfl) (fun _ _ _ h=>h) (Or.inl ⟨by rfl,?_⟩) hH1 ?_
   rotate_left
   ·intro w' hw'
    obtain _:=hw'
    go_simp
    try with_reducible rfl
   try simp only [Act.put,PuA]
   refine wpAnyH_take (i:=9) (oi:=⟨some 8,.assign (.tmp 46),3,"slices.go:528",#[⟨8,.data⟩,⟨7,.chain⟩,⟨0,.phase⟩,⟨1,.phase⟩,⟨2,.phase⟩,⟨3,.phase⟩,⟨4,.phase⟩,⟨5,.phase⟩,⟨6,.phase⟩,⟨7,.phase⟩,⟨8,.phase⟩],none⟩) (v:=?_) rfl (by kernel_rfl) (by kernel_rfl) (by kernel_rfl) (fun _ _ _ h=>h) (Or.inl ⟨by rfl,?_⟩) hH1 ?_
   rotate_left
   ·intro w' hw'
    obtain _:=hw'
    go_simp
    try with_reducible rfl
   try simp only [Act.put,PuA]
   refine wpAnyH_done (by kernel_rfl) ?_ _
   refine NoPanic.normal ?_
   go_wp2_with fail
   go_roundw
   case rel=>exact⟨m+k5,by go_num,by omega,Or.inr (by omega),hR5⟩
   case measure=>simp [intOf];omega
  ·obtain rfl:m=n:=by omega
   go_wp2_with fail
   go_ret
   refine⟨g,rfl,hR.out.le,?_,hR.out.bel⟩
   have:=hR.out.row
   simpa [rp2] using this
end
section
open Go.RowKit
theorem clo80:Clo 205:=fun args w=>by kernel_rfl
theorem clo78:Clo 203:=fun args w=>by kernel_rfl
theorem ZlF {n:Nat}{f:Value}(hf:f.oneCell'=true)(k:Nat):∀ v ∈ rp2 (.int .i64 ((n:Nat):Int)) f k,v.oneCell'=true:=fun v hv=>by
 rcases Zf6 _ f k v hv with rfl|rfl
 ·rfl
 ·exact hf
theorem owns_rp2 {w:World}{g z n:Nat}{f:Value}(hn:n<=1000000)(h:w.heap[g]?=some (.cells (rp2 (.int .i64 (z:Int)) f n).toArray 121 (0,0))):w.ownsRow 0 121 2 (.slice (some ⟨g,0,none⟩) n n) n (rp2 (.int .i64 (z:Int)) f n):=by
 have hl:=ZbU (.int .i64 (z:Int)) f n
 refine⟨hl,.inr ⟨g,n,_,rfl,Nat.zero_le _,h,Nat.le_refl _,by unfold maxLen;omega,by simpa using hl,?_⟩⟩
 simp only [List.toList_toArray]
 exact List.take_of_length_le (by omega)
theorem Zju (w:World)(ty:TypeId)(v:Value)(n:Nat)(xs:List Value)(h:w.ownsRow 0 121 2 v n xs)(b m c:Nat)(news:List Value)(hb:w.heap[b]?=some (.cells news.toArray 121 (0,0)))(hl:news.length=m * 2)(h1:∀ u ∈ news,u.oneCell'=true)(hnm:n+m<=1000000) :
  ∃ v' w',(Builtin.append_ #[221,221] ty #[v,.slice (some ⟨b,0,none⟩) m c]).run Tryz.prog w=.ok v' w'/\w'.ownsRow 0 121 2 v' (n+m) (xs++news)/\w.grownBy w' v.ownBlock/\(v'.ownBlock=v.ownBlock\/v'.ownBlock=some w.heap.size):=by
 obtain⟨i0,hi,hz0,hz1,hz2⟩:=infoC
 obtain⟨v',w',h1,h2,h3,_,h5⟩:=run_append_own_at (P:=Tryz.prog) w 0 221 ty 121 i0 (cdV 0 .nilFunc) 2 16 Tryz.underlying221 hi hz0 hz1 hz2 rfl (by decide) v n xs h ⟨b,0,none⟩ m c news hl (fun j u hj=>by
  rw [Zav,Nat.zero_add,cell_of_row w b j _ 121 (0,0) hb]
  simpa using hj) h1 (by unfold maxLen;omega) (by omega) (Nat.zero_le _)
 exact⟨v',w',h1,h2,h3,h5⟩
theorem run_bs99 (n:Nat)(fn:Fn)(xs ys:Array Value)(w:World):(Instr.buildSlice 221 1 #[(0,cdV n (.func fn xs ys))]).run Tryz.prog w=.ok (.slice (some ⟨w.heap.size,0,none⟩) 1 1) (w.alloc (.cells (cdA n (.func fn xs ys)) 121)):=by kernel_rfl
theorem ZlG (t:TypeId){ev:Operand->Value}{dst:Option Nat}{ty:TypeId}{pos:String}{after:Array Edge}{gd:Option (Nat × Bool)}{x:Operand}{ad:Addr}{v:Value}{w:World}(hx:ev x=.pointer (some ad))(hl:(loadVar t ad).run Tryz.prog w=.ok v w):(execOp ev ⟨dst,.load t x,ty,pos,after,gd⟩).run Tryz.prog w=.ok (.value v) w:=by
 unfold execOp
 simp only [hx,Instr.loadAt,Instr.sureAddr,Sem.run_bind,Sem.run_pure,Result.andThen_ok,hl]
section
variable {S:Nat->Prop}{w0 w w':World}{L:List Ent}{ops:Array Oper}{rest:List Oper}{o:Oper}{a:Act}{Q:Exit->Act->World->Prop}{K:Act->World->Prop}{E:Prop}{dst:Option Nat}{x y:Operand}{ty ty2:TypeId}{pos pos2:String}{after after2:Array Edge}
theorem wp_bs99 {n:Nat}{f:Value}(ho:o.op=.buildSlice 221 1 #[(0,x)])(hx:a.eval x=cdV n f)(hf:f.oneCell'=true)(h:K (a.put o.dst (.slice (some ⟨w.heap.size,0,none⟩) 1 1)) (w.alloc (.cells (cdA n f) 121))):o.wp Tryz.prog a w K Q:=by
 have e:(Instr.buildSlice 221 1 #[(0,cdV n f)]).run Tryz.prog w=.ok (.slice (some ⟨w.heap.size,0,none⟩) 1 1) (w.alloc (.cells (cdA n f) 121)):=by
  cases f <;> first|kernel_rfl|cases hf
 unfold Oper.wp execOp
 simp only [ho,List.map_toArray,List.map_cons,List.map_nil,hx,Sem.run_bind,e,Result.andThen_ok,Sem.run_pure]
 exact h
theorem Zil {ps:Array (Nat × Operand)}{n:Nat}(h:wpList Tryz.prog ops Q (⟨dst,.buildSlice 221 n ps,ty,pos,after,none⟩::rest) a w):wpList Tryz.prog ops Q (⟨dst,.buildSlice 221 n ps,ty,pos,after,none⟩::rest) a w:=h
theorem ZlH {n:Nat}{fn:Fn}{xs ys:Array Value}(hx:a.eval x=cdV n (.func fn xs ys))(k:∀ g w',g=w.heap.size->w'=w.alloc (.cells (cdA n (.func fn xs ys)) 121)->wpList Tryz.prog ops Q rest (a.put dst (.slice (some ⟨g,0,none⟩) 1 1)) w'):wpList Tryz.prog ops Q (⟨dst,.buildSlice 221 1 #[(0,x)],ty,pos,after,none⟩::rest) a w:=by
 refine ZaI (w':=w.alloc (.cells (cdA n (.func fn xs ys)) 121)) ?_ (k _ _ rfl rfl)
 unfold execOp
 simp only [List.map_toArray,List.map_cons,List.map_nil,hx,Sem.run_bind,run_bs99,Result.andThen_ok,Sem.run_pure]
theorem at_app99 (h:wpList Tryz.prog ops Q (⟨dst,.call { callee:=.builtin .append,args:=#[x,y],argTypes:=#[221,221] },ty,pos,after,none⟩::rest) a w):wpList Tryz.prog ops Q (⟨dst,.call { callee:=.builtin .append,args:=#[x,y],argTypes:=#[221,221] },ty,pos,after,none⟩::rest) a w:=h
theorem wl_app99 {v1 v2 u:Value}(hx:a.eval x=v1)(hy:a.eval y=v2)(hr:(Builtin.append_ #[221,221] ty #[v1,v2]).run Tryz.prog w=.ok u w')(h:wpList Tryz.prog ops Q rest (a.put dst u) w'):wpList Tryz.prog ops Q (⟨dst,.call { callee:=.builtin .append,args:=#[x,y],argTypes:=#[221,221] },ty,pos,after,none⟩::rest) a w:=by
 refine ZaI ?_ h
 simp [execOp,resolve,invoke,builtin,hx,hy,hr,Result.andThen]
theorem Zkq (hgd:o.guard=none)(s x:Operand)(ho:o.op=.call { callee:=.builtin .append,args:=#[s,x],argTypes:=#[221,221] })(v1 v2 v':Value)(w':World)(hs:a.eval s=v1)(hx:a.eval x=v2)
  (hr:(Builtin.append_ #[221,221] o.type #[v1,v2]).run Tryz.prog w=.ok v' w') (h:K (a.put o.dst v') w') :
  if Region.wanted o (yielded ops a.tmps)=true then Oper.wp Tryz.prog o a w K Q else E:=by
 have hw:Region.wanted o (yielded ops a.tmps)=true:=by simp [Region.wanted,hgd]
 rw [if_pos hw]
 unfold Oper.wp
 simp [execOp,ho,resolve,invoke,builtin,hs,hx,hr,Result.andThen]
 exact h
end
theorem Cs.rep {b:Nat}{R:Nat->Prop}{w:World}{z:Nat}{f:Value}{c:Cd}(h:CdOk b R w z f c):∀ n,Cs b R w (List.replicate n c) (rp2 (.int .i64 (z:Int)) f n)
 | 0=>rfl
 | n+1=>⟨z,f,_,rfl,h,Cs.rep h n⟩
def ZlI (b:Nat)(R:Nat->Prop)(w:World)(cs:List Cd)(e:Ending)(w':World):Prop:=∃ v,e=.returned v/\CsV b R w' v cs/\Below w.heap.size w w'
theorem ZgY {b:Nat}{R:Nat->Prop}{w w3 w5 w6:World}{z z1 g2:Nat}{f f1:Value}{c d:Cd}{mn k:Nat}{v6:Value}(hR:∀ k,R k->k<w.heap.size)(hc:CdOk b R w z f c)(hg2:w.heap.size<=g2)(C1:CdOk (b+1) (fun j=>R j\/j=g2) w3 z1 f1 d)(B03:Below w.heap.size w w3)(B35:Below w3.heap.size w3 w5)(B56:But (fun j=>j=g2) w5 w6)
  (O6:w6.ownsRow 0 121 2 v6 (mn+k) (rp2 (.int .i64 (z:Int)) f mn++rp2 (.int .i64 (z1:Int)) f1 k)) (N6:v6.ownBlock=some g2\/v6.ownBlock=some w5.heap.size):ZlI (b+1) R w (List.replicate mn c++List.replicate k d) (.returned v6) w6:=by
 have B05:Below w.heap.size w w5:=B03.trans (B35.mono B03.size)
 have B06:Below w.heap.size w w6:=B05.trans (B56.below B05.size (fun j h=>by omega))
 refine⟨v6,rfl,⟨_,by simpa using O6,fun j hj hr=>?_,Cs.append (Cs.rep ((hc.below B06).weak (by omega)) mn) (Cs.rep (C1.mono (((Kp.refl _ _).below B35).but B56 (fun i h=>.inl (.inr h))) (fun j h=>.inl (.inl h))) k)⟩,B06⟩
 have:=hR j hr
 have:=B05.size
 rcases N6 with h|h
 ·rw [h] at hj;cases hj;omega
 ·rw [h] at hj;cases hj;omega
theorem St.ro3 {w:World}{g1 g2 g3:Nat}{t1 t2 t3:TypeId}{xs ys zs:Array Value}(h1:w.heap[g1]?=some (.cells xs t1 (0,0)))(h2:w.heap[g2]?=some (.cells ys t2 (0,0)))(h3:w.heap[g3]?=some (.cells zs t3 (0,0)))(n12:g1≠g2)(n13:g1≠g3)(n23:g2≠g3):St Nope w w [(false,g1,t1,xs),(false,g2,t2,ys),(false,g3,t3,zs)] :=
 (St.ro2 h2 h3 n23).ro h1 (fun x h=>by
  simp only [List.mem_cons,List.not_mem_nil,or_false] at h
  rcases h with rfl|rfl
  ·exact fun e=>n12 e.symm
  ·exact fun e=>n13 e.symm)
set_option maxRecDepth 100000 in
theorem ZgZ (R:Nat->Prop)(gc gf gt:Nat)(z:Nat)(f:Value)(c:Cd)(mn:Nat)(mx:Int)(nx:Nat)(b:Nat)(hb0:b<=1500000)(w:World)(hmn:mn<=64)(hmx:mx=-1\/(mn:Int)<=mx/\mx<=64)(h1:w.heap[gc]?=some (.cells (cdA z f) 121 (0,0)))(h2:w.heap[gf]?=some (.cells #[.int .i64 (mn:Int)] 3 (0,0)))(h3:w.heap[gt]?=some (.cells #[.int .i64 mx] 3 (0,0)))(n12:gc≠gf)(n13:gc≠gt)(n23:gf≠gt)(hc:CdOk b R w z f c)(hR:∀ k,R k->k<w.heap.size) :
  Calls Tryz.prog 202 #[.int .i64 (nx:Int),.pointer (some ⟨gc,0,none⟩),.pointer (some ⟨gf,0,none⟩),.pointer (some ⟨gt,0,none⟩)] w (ZlI (b+1) R w (rpL c mn mx nx)):=by
 have H:=St.ro3 h1 h2 h3 n12 n13 n23
 obtain⟨nf,caps,hfe,_⟩:=hc.put
 subst hfe
 generalize hfd:Value.func (.func nf) #[] caps=f at *
 have RP:=Zaa (Zfu (w.alloc (.cells (cdA z f) 121)) w.heap.size z f mn (by omega) (by rw [<- hfd];rfl) (heap_alloc_new w _))
 replace hc:=Zaa hc
 have l1:=H.lti 0 rfl
 have l2:=H.lti 1 rfl
 have l3:=H.lti 2 rfl
 replace h1:=Zaa h1
 replace h2:=Zaa h2
 replace h3:=Zaa h3
 have B01:Below w.heap.size w (w.alloc (.cells (cdA z f) 121)):=(Below.refl _ w).alloc (Nat.le_refl _) _
 generalize hres:rpL c mn mx nx=res
 replace hres:=Zaa hres
 go_enter Tryz.func202,Tryz.ntmps202
 go_wp2_with (first|((with_reducible refine Zac 121 ?_);refine Zep 0 H rfl rfl ?_)|((with_reducible refine Zac 3 ?_);refine Zau 3 rfl (ld3 ((B01.cell (p:=⟨gf,0,none⟩) l2).trans (H.cell 1 0 rfl (v:=.int .i64 (mn:Int)) rfl))) ?_)|((with_reducible refine Zil ?_);refine ZlH (n:=z) (fn:=.func nf) (xs:=#[]) (ys:=caps) (by rw [hfd];rfl) ?_;intro g1 w1 hg1 hw1;subst hg1;rw [hfd] at hw1;subst hw1))
 refine RP.out.mono ?_
 rintro e w2 ⟨g2,rfl,hg2,hrow,B2⟩
 have hg2':w.heap.size<=g2:=by have:=B01.size;omega
 have B02:=B01.trans (B2.mono B01.size)
 have hg2l:=(Array.getElem?_eq_some_iff.1 hrow).1
 have hrow2:=Zaa (owns_rp2 (by omega) hrow)
 have H2:=Zaa (H.call B02 (Nat.le_refl _))
 clear H
 have Cw2:CdOk b (fun j=>R j\/j=g2) w2 z f c:=hc.out.mono ((Kp.refl _ _).below B02) (fun k h=>by rcases h with h|h;exact .inl h;right;omega)
 have hR2:∀ k,(R k\/k=g2)->k<w2.heap.size:=fun k h=>by rcases h with h|h;have:=hR k h;have:=B02.size;omega;omega
 clear hrow
 replace B2:=Zaa B2
 replace B01:=Zaa B01
 rcases hmx with rfl|hmx
 ·have LP:=Zaa (loop_any _ z f c w2 b (by omega) Cw2 hR2)
  replace H2:=H2.out
  go_wp2_with (first|((with_reducible refine Zac 121 ?_);refine Zep 0 H2 rfl rfl ?_)|((with_reducible refine Zac 3 ?_);refine Zax 2 0 H2 (v:=.int .i64 (-1)) rfl rfl rfl ?_))
  refine LP.out.mono ?_
  rintro e w3 ⟨z1,f1,rfl,C1,B3⟩
  obtain⟨nf1,caps1,hfe1,_⟩:=C1.put
  subst hfe1
  have B23:=B3
  have B03:=B02.trans (B3.mono B02.size)
  have B34:Below w3.heap.size w3 (w3.alloc (.cells (cdA z1 (.func (.func nf1) #[] caps1)) 121)):=(Below.refl _ w3).alloc (Nat.le_refl _) _
  have B24:=B23.trans (B34.mono B23.size)
  obtain⟨v6,w6,R6,O6,G6,N6⟩:=Zju (w3.alloc (.cells (cdA z1 (.func (.func nf1) #[] caps1)) 121)) 221 (.slice (some ⟨g2,0,none⟩) mn mn) mn _ (ZbL hrow2.out (fun k hk=>B24.block k (by cases hk;exact hg2l))) w3.heap.size 1 1 (rp2 (.int .i64 (z1:Int)) (.func (.func nf1) #[] caps1) 1) (heap_alloc_new w3 _) (ZbU _ _ _) (ZlF rfl _) (by omega)
  have B56:But (fun k=>k=g2) (w3.alloc (.cells (cdA z1 (.func (.func nf1) #[] caps1)) 121)) w6:=(But.refl _ _).grown G6 (fun k e _=>by cases e;rfl)
  have fin:Hid (ZlI (b+1) R w res (.returned v6) w6):=by
   rw [<- hres.out]
   have:=ZgY (k:=1) hR hc.out hg2' C1 B03 B34 B56 O6 N6
   unfold rpL
   rw [if_pos rfl]
   exact this
  replace C1:=Zaa C1
  replace R6:=Zaa R6
  clear O6 G6 N6 B56 B24 B34 B23 H2
  go_wp2_with (first|((with_reducible refine Zil ?_);refine ZlH (n:=z1) (fn:=.func nf1) (xs:=#[]) (ys:=caps1) rfl ?_;intro g4 w4 hg4 hw4;subst hg4;subst hw4)|((with_reducible refine at_app99 ?_);refine wl_app99 rfl rfl R6.out ?_))
  go_ret
  exact fin.out
 ·have hneg:(mx == -1)=false:=beq_eq_false_iff_ne.2 (by omega)
  have OP:=Zaa (ZdX _ z f c nx w2.drew b (by omega) (Cw2.mono ((Kp.refl _ _).below ((Below.refl _ w2).drew)) (fun k h=>.inl h)) hR2)
  have esub:IntKind.i64.wrap (mx - (mn:Int))=((mx.toNat - mn:Nat):Int):=by rw [IntKind.wrap_i64];omega
  have BD:Below w2.heap.size w2 w2.drew:=(Below.refl _ w2).drew
  have hS:Hid (∀ w',Below w2.heap.size w2 w'->((loadVar 121 ⟨gc,0,none⟩).run Tryz.prog w'=.ok (cdV z f) w'/\w'.cell? ⟨gf,0,none⟩=some (.int .i64 (mn:Int))/\w'.cell? ⟨gt,0,none⟩=some (.int .i64 mx))):=fun w' hb=>by
   have H3:=H2.out.call hb (Nat.le_refl _)
   exact⟨ZcI (H3.get 0 rfl),H3.cell 1 0 rfl rfl,H3.cell 2 0 rfl rfl⟩
  have hS6:Hid (∀ w5 w6,Below w2.heap.size w2 w5->But (fun k=>k=g2) w5 w6->((loadVar 121 ⟨gc,0,none⟩).run Tryz.prog w6=.ok (cdV z f) w6/\w6.cell? ⟨gf,0,none⟩=some (.int .i64 (mn:Int))/\w6.cell? ⟨gt,0,none⟩=some (.int .i64 mx))):=fun w5 w6 hb hbut=>by
   have H3:=(H2.out.call hb (Nat.le_refl _)).sub (M:=[(false,gc,121,cdA z f),(false,gf,3,#[.int .i64 (mn:Int)]),(false,gt,3,#[.int .i64 mx])]) (List.Sublist.refl _)
   have e:∀ k,k<w.heap.size->w6.heap[k]?=w5.heap[k]?:=fun k hk=>hbut.block k (by have:=B02.size;have:=hb.size;omega) (by omega)
   exact⟨ZcI ((e gc l1).trans (H3.get 0 rfl)),(World.cell?_of_block (a:=⟨gf,0,none⟩) (e gf l2)).trans (H3.cell 1 0 rfl rfl),(World.cell?_of_block (a:=⟨gt,0,none⟩) (e gt l3)).trans (H3.cell 2 0 rfl rfl)⟩
  have hmxH:=Zaa hmx
  have hd3:Hid (mx.toNat - mn<=64):=by show _<=_;omega
  have c3:=(H2.out.cell 2 0 rfl (v:=.int .i64 mx) rfl)
  go_wp2_with (first|((with_reducible refine Zac 3 ?_);refine Zau 3 rfl (ld3 c3) ?_))
  refine wp_region_noPanic ?_
  refine wp_region_held_drew (S:=(fun w'=>(loadVar 121 ⟨gc,0,none⟩).run Tryz.prog w'=.ok (cdV z f) w'/\w'.cell? ⟨gf,0,none⟩=some (.int .i64 (mn:Int))/\w'.cell? ⟨gt,0,none⟩=some (.int .i64 mx))) (by kernel_rfl) (hS.out _ BD) (fun hH0=>?_)
  refine wpAnyH_take (i:=0) (oi:=⟨some 18,.move (.tmp 6),221,"code.go:108",#[],none⟩) (v:=?_) rfl (by kernel_rfl) (by kernel_rfl) (by kernel_rfl) (fun _ _ _ h=>h) (Or.inl ⟨by rfl,?_⟩) hH0 ?_
  rotate_left
  ·intro w' hw'
   obtain⟨s1,s2,s3⟩:=hw'
   go_simp
   try with_reducible rfl
  try simp only [Act.put,PuA]
  refine wpAnyH_take (i:=1) (oi:=⟨some 19,.load 121 (.tmp 1),121,"code.go:108",#[],none⟩) (v:=cdV z f) rfl (by kernel_rfl) (by kernel_rfl) (by kernel_rfl) (fun _ _ _ h=>h) (Or.inl ⟨by rfl,fun w' hw'=>ZlG 121 rfl hw'.1⟩) hH0 ?_
  try simp only [Act.put,PuA]
  refine wpAnyH_take (i:=2) (oi:=⟨some 20,.move (.tmp 0),3,"code.go:108",#[],none⟩) (v:=?_) rfl (by kernel_rfl) (by kernel_rfl) (by kernel_rfl) (fun _ _ _ h=>h) (Or.inl ⟨by rfl,?_⟩) hH0 ?_
  rotate_left
  ·intro w' hw'
   obtain⟨s1,s2,s3⟩:=hw'
   go_simp
   try with_reducible rfl
  try simp only [Act.put,PuA]
  refine wpAnyH_take (i:=5) (oi:=⟨some 23,.load 3 (.tmp 3),3,"code.go:108",#[],none⟩) (v:=?_) rfl (by kernel_rfl) (by kernel_rfl) (by kernel_rfl) (fun _ _ _ h=>h) (Or.inl ⟨by rfl,?_⟩) hH0 ?_
  rotate_left
  ·intro w' hw'
   obtain⟨s1,s2,s3⟩:=hw'
   go_simp
   try with_reducible rfl
  try simp only [Act.put,PuA]
  refine wpAnyH_take (i:=6) (oi:=⟨some 24,.load 3 (.tmp 2),3,"code.go:108",#[],none⟩) (v:=?_) rfl (by kernel_rfl) (by kernel_rfl) (by kernel_rfl) (fun _ _ _ h=>h) (Or.inl ⟨by rfl,?_⟩) hH0 ?_
  rotate_left
  ·intro w' hw'
   obtain⟨s1,s2,s3⟩:=hw'
   go_simp
   try with_reducible rfl
  try simp only [Act.put,PuA]
  refine wpAnyH_take (i:=7) (oi:=⟨some 25,.binOp .sub 3 (.tmp 23) (.tmp 24) 3,3,"code.go:108",#[⟨5,.data⟩,⟨6,.data⟩],none⟩) (v:=?_) rfl (by kernel_rfl) (by kernel_rfl) (by kernel_rfl) (fun _ _ _ h=>h) (Or.inl ⟨by rfl,?_⟩) hH0 ?_
  rotate_left
  ·intro w' hw'
   obtain⟨s1,s2,s3⟩:=hw'
   go_simp
   try with_reducible rfl
  try simp only [Act.put,PuA]
  refine wpAnyH_ready (rs:=[3]) (by kernel_rfl) (by simp) ?_
  refine AllReadyH.cons (o:=⟨some 21,.call { callee:=.value (.func 205),args:=#[.tmp 19,.tmp 20],argTypes:=#[121,3] },121,"code.go:108",#[⟨1,.data⟩,⟨2,.data⟩],none⟩) rfl (fun K hK=>?_) AllReadyH.nil
  refine ZeH (caps:=#[]) (u1:=cdV z f) (u2:=.int .i64 (nx:Int)) rfl rfl rfl rfl clo80 ?_
  rw [Array.append_empty]
  refine OP.out.mono ?_
  rintro e w3 ⟨z1,f1,rfl,C1,B3⟩
  have hf1:=C1.put.one
  have B23:=BD.trans (B3.mono BD.size)
  have BA:=B23.trans ((((Below.refl _ w3).alloc (Nat.le_refl _) (.cells (cdA z1 f1) 121))).mono B23.size)
  have RP:=Zaa (Zfu (w3.alloc (.cells (cdA z1 f1) 121)) w3.heap.size z1 f1 (mx.toNat - mn) (by omega) hf1 (heap_alloc_new w3 _))
  refine⟨_,rfl,?_⟩
  refine hK.out _ _ (hS.out _ B23) (fun hH1=>?_)
  clear hK
  try simp only [Act.put,PuA]
  refine wpAnyH_ready (rs:=[4]) (by kernel_rfl) (by simp) ?_
  refine AllReadyH.cons (o:=⟨some 22,.buildSlice 221 1 #[(0,.tmp 21)],221,"code.go:108",#[⟨3,.data⟩],none⟩) rfl (fun K hK=>?_) AllReadyH.nil
  rw [if_pos (by rfl)]
  refine wp_bs99 rfl rfl hf1 ?_
  refine hK.out _ _ (hS.out _ BA) (fun hH2=>?_)
  clear hK
  try simp only [Act.put,PuA]
  refine wpAnyH_ready (rs:=[8]) (by kernel_rfl) (by simp) ?_
  refine AllReadyH.cons (o:=⟨some 26,.call { callee:=.value (.func 203),args:=#[.tmp 22,.tmp 25],argTypes:=#[221,3] },221,"code.go:108",#[⟨4,.data⟩,⟨7,.data⟩,⟨3,.chain⟩],none⟩) rfl (fun K hK=>?_) AllReadyH.nil
  refine ZeH (caps:=#[]) (u1:=.slice (some ⟨w3.heap.size,0,none⟩) 1 1) (u2:=.int .i64 ((mx.toNat - mn:Nat):Int)) rfl rfl rfl rfl clo78 ?_
  rw [Array.append_empty]
  refine RP.out.mono ?_
  rintro e w5 ⟨g5,rfl,hg5,hrow5,B5⟩
  have B25:=BA.trans (B5.mono BA.size)
  have hs2:=BA.size
  obtain⟨v6,w6,R6,O6,G6,N6⟩:=Zju w5 221 (.slice (some ⟨g2,0,none⟩) mn mn) mn _ (ZbL hrow2.out (fun k hk=>B25.block k (by cases hk;exact hg2l))) g5 (mx.toNat - mn) (mx.toNat - mn) (rp2 (.int .i64 (z1:Int)) f1 (mx.toNat - mn)) hrow5 (ZbU _ _ _) (ZlF hf1 _) (by omega)
  have B56:But (fun k=>k=g2) w5 w6:=(But.refl _ w5).grown G6 (fun k e _=>by cases e;rfl)
  refine⟨_,rfl,?_⟩
  refine hK.out _ _ (hS.out _ B25) (fun hH3=>?_)
  clear hK
  try simp only [Act.put,PuA]
  refine wpAnyH_ready (rs:=[9]) (by kernel_rfl) (by simp) ?_
  refine AllReadyH.cons (o:=⟨some 27,.call { callee:=.builtin .append,args:=#[.tmp 18,.tmp 26],argTypes:=#[221,221] },221,"code.go:108",#[⟨0,.data⟩,⟨8,.data⟩,⟨8,.chain⟩],none⟩) rfl (fun K hK=>?_) AllReadyH.nil
  refine Zkq rfl (.tmp 18) (.tmp 26) rfl _ _ _ _ rfl rfl R6 ?_
  refine hK.out _ _ (hS6.out _ _ B25 B56) (fun hH4=>?_)
  clear hK
  try simp only [Act.put,PuA]
  refine wpAnyH_take (i:=10) (oi:=⟨some 5,.assign (.tmp 27),221,"code.go:108",#[⟨9,.data⟩,⟨9,.chain⟩,⟨0,.phase⟩,⟨1,.phase⟩,⟨2,.phase⟩,⟨3,.phase⟩,⟨4,.phase⟩,⟨5,.phase⟩,⟨6,.phase⟩,⟨7,.phase⟩,⟨8,.phase⟩,⟨9,.phase⟩],none⟩) (v:=?_) rfl (by kernel_rfl) (by kernel_rfl) (by kernel_rfl) (fun _ _ _ h=>h) (Or.inl ⟨by rfl,?_⟩) hH4 ?_
  rotate_left
  ·intro w' hw'
   obtain⟨s1,s2,s3⟩:=hw'
   go_simp
   try with_reducible rfl
  try simp only [Act.put,PuA]
  refine wpAnyH_done (by kernel_rfl) ?_ _
  refine NoPanic.normal ?_
  go_wp2_with fail
  go_ret
  rw [<- hres.out]
  have:=ZgY (k:=mx.toNat - mn) hR hc.out hg2' C1 (B02.trans (B23.mono B02.size)) (((Below.refl _ w3).alloc (Nat.le_refl _) (.cells (cdA z1 f1) 121)).trans (B5.mono (by simp))) B56 O6 N6
  unfold rpL
  rw [if_neg (by omega)]
  exact this
end
section
open Go.RowKit
theorem ZbF (c:Cd)(mn:Nat)(mx:Int)(nx:Nat)(h1:mn<=64)(h2:mx<=64):(rpL c mn mx nx).length<=200:=by
 unfold rpL
 split <;> simp <;> omega
def ptF (gc gf gt:Nat):Value:=.func (.func 202) #[] #[.pointer (some ⟨gc,0,none⟩),.pointer (some ⟨gf,0,none⟩),.pointer (some ⟨gt,0,none⟩)]
set_option maxRecDepth 100000 in
theorem Zf7 (gq gc gf gt:Nat)(z:Nat)(f:Value)(c:Cd)(mn:Nat)(mx:Int)(b:Nat)(hb0:b<=1500000)(W:World)(v:Value)(I:List Ins)(m:Nat)(hmn:mn<=64)(hmx:mx=-1\/(mn:Int)<=mx/\mx<=64)(h0:W.heap[gq]?=some (.cells #[ptF gc gf gt] 263 (0,0)))(h1:W.heap[gc]?=some (.cells (cdA z f) 121 (0,0)))(h2:W.heap[gf]?=some (.cells #[.int .i64 (mn:Int)] 3 (0,0)))(h3:W.heap[gt]?=some (.cells #[.int .i64 mx] 3 (0,0)))(n12:gc≠gf)(n13:gc≠gt)(n23:gf≠gt)
  (hc:CdOk b (fun k=>v.ownBlock=some k) W z f c) (hr:RI W v I) (hl:I.length+(rp c mn mx).n<=100000) (hm:m<=100000) :
  Calls Tryz.prog 206 #[v,.int .i64 ((m:Nat):Int),.pointer (some ⟨gq,0,none⟩)] W (PutE W v (I++(rp c mn mx).put I.length m)):=by
 have H:=(St.start Nope W).ro h0 (fun _ h=>(List.not_mem_nil h).elim)
 obtain⟨a,cp,hv⟩:=hr.val
 subst hv
 have hRl:∀ k,(Value.slice a I.length cp).ownBlock=some k->k<W.heap.size:=fun k hk=>hr.lt hk
 have PA:=Zaa (ZgZ _ gc gf gt z f c mn mx m b hb0 W hmn hmx h1 h2 h3 n12 n13 n23 hc hRl)
 have hlen:=ZbF c mn mx m hmn (by omega)
 have hn:(sqn (rpL c mn mx m)).n=(rp c mn mx).n:=by simp only [sqn,rp,ZdV]
 replace hr:=Zaa hr
 replace h0:=Zaa h0
 replace h1:=Zaa h1
 replace h2:=Zaa h2
 replace h3:=Zaa h3
 replace hc:=Zaa hc
 generalize hJ:I++(rp c mn mx).put I.length m=J
 replace hJ:=Zaa hJ
 go_enter Tryz.func206,Tryz.ntmps206
 go_wp2_with (first|((with_reducible refine Zac 263 ?_);refine Zjr 0 0 H (v:=ptF gc gf gt) rfl rfl rfl ?_)|((with_reducible refine Zdj ?_);refine Zic (u1:=.int .i64 (m:Int)) rfl rfl clo77 ?_))
 refine PA.out.mono ?_
 rintro e w1 ⟨sv,rfl,C1,B1⟩
 obtain⟨sa,sc,hsv,_⟩:=C1.val
 subst hsv
 have SQ:=Zaa (Zch _ _ _ (b+1) (by omega) w1 C1 (by omega) (fun k hk=>by have:=hRl k hk;have:=B1.size;omega))
 refine⟨_,rfl,?_⟩
 replace C1:=Zaa C1
 go_wp2_with fail
 refine SQ.out.mono ?_
 rintro e w2 ⟨z2,f2,rfl,C2,B2⟩
 obtain⟨nf,caps,hfe,hcl,PF⟩:=C2.put
 subst hfe
 have B02:=B1.trans (B2.mono B1.size)
 have PP:=Zaa (PF w2 _ I m (Kp.refl _ _) (hr.out.below B02) (fun k hk=>.inl hk) (by rw [hn];exact hl) hm)
 replace PF:=Zaa PF
 replace C2:=Zaa C2
 replace H:=H.call B02 (Nat.le_refl _)
 go_wp2_with (first|((with_reducible refine Zeq 121 ?_);refine ZaI (Zdo _ z2 (.func (.func nf) #[] caps) rfl _) ?_)|((with_reducible refine Zdj ?_);refine Zdm (u1:=.slice a I.length cp) (u2:=.int .i64 (m:Int)) rfl rfl rfl hcl ?_))
 refine PP.out.mono ?_
 rintro e w3 ⟨v3,rfl,r3,b3,o3⟩
 refine⟨v3,rfl,?_⟩
 have fin:Hid (PutE W (.slice a I.length cp) J (.returned v3) w3):=by
  have h4:=PutE.after (Zbd B02 _ (fun k h1 h2=>by omega)) (fun k hk=>.inl hk) (⟨v3,rfl,r3,b3,o3⟩:PutE w2 _ _ (.returned v3) w3)
  rw [<- hJ.out]
  exact h4
 clear r3 b3 o3
 go_wp2_with fail
 go_ret
 exact fin.out
section
variable {S:Nat->Prop}{w0 w w':World}{L:List Ent}{ops:Array Oper}{rest:List Oper}{a:Act}{Q:Exit->Act->World->Prop}{dst:Option Nat}{x y:Operand}{ty:TypeId}{pos:String}{after:Array Edge}
theorem Zim (H:St S w0 w L)(h:∀ g w',St S w0 w' ((true,g,263,#[.nilFunc])::L)->w0.heap.size<=g->w.heap.size<=g->wpList Tryz.prog ops Q rest (a.put dst (.pointer (some ⟨g,0,none⟩))) w'):wpList Tryz.prog ops Q (⟨dst,.alloc 263,ty,pos,after,none⟩::rest) a w:=by
 refine ZaI (w':=w.alloc (.cells #[.nilFunc] 263)) ?_ (h _ _ (H.alloc 263 _) H.but.size (Nat.le_refl _))
 unfold execOp
 kernel_rfl
theorem one113:∀ w,(sizeOf 263).run Tryz.prog w=.ok 1 w:=fun w=>by kernel_rfl
theorem wl_st113 (i:Nat)(H:St S w0 w L){g:Nat}{u:Value}{fn:Fn}{xs ys:Array Value}(h:L[i]?=some (true,g,263,#[u]))(hx:a.eval x=.pointer (some ⟨g,0,none⟩))(hy:a.eval y=.func fn xs ys)
  (k:∀ w',St S w0 w' (L.set i (true,g,263,#[.func fn xs ys]))->wpList Tryz.prog ops Q rest a w'):wpList Tryz.prog ops Q (⟨none,.store 263 x y,ty,pos,after,none⟩::rest) a w :=
 Zbt i 0 263 H h hx hy (by simp) one113 rfl k
end
set_option maxRecDepth 100000 in
theorem ZcK (R:Nat->Prop)(z:Nat)(f:Value)(c:Cd)(mn:Nat)(mx:Int)(w:World)(hmn:mn<=64)(hmx:mx=-1\/(mn:Int)<=mx/\mx<=64)(hc:CdOk cap R w z f c)(hR:∀ k,R k->k<w.heap.size) :
  Calls Tryz.prog 160 #[cdV z f,.int .i64 (mn:Int),.int .i64 mx] w (CodeP cap R w (rp c mn mx)):=by
 have H:=St.start Nope w
 have hcap:cap<=1500000:=by decide
 replace hc:=Zaa hc
 go_enter Tryz.func160,Tryz.ntmps160
 go_wp2_with (first|((with_reducible refine Zar 121 ?_);refine Zib H rfl ?_;clear H;intro g1 w1 H q1 q2)|((with_reducible refine Zar 3 ?_);first|(refine Zih H (n:=(mn:Int)) rfl ?_;clear H;intro g2 w2 H q3 q4)|(refine Zih H (n:=mx) rfl ?_;clear H;intro g3 w3 H q5 q6))|((with_reducible refine Zae 121 ?_);refine ZaS H ?_;clear H;intro g4 w4 H q7 q8)|((with_reducible refine Zae 263 ?_);refine Zim H ?_;clear H;intro g5 w5 H q9 q10)|((with_reducible refine Zab 263 ?_);refine wl_st113 0 (fn:=.func 202) (xs:=#[]) (ys:=#[.pointer (some ⟨g1,0,none⟩),.pointer (some ⟨g2,0,none⟩),.pointer (some ⟨g3,0,none⟩)]) H rfl rfl rfl ?_;clear H;intro w6 H)|((with_reducible refine Zac 263 ?_);refine Zjr 0 0 H (v:=ptF g1 g2 g3) rfl rfl rfl ?_)|((with_reducible refine Zdj ?_);refine Zic (u1:=.int .i64 0) rfl rfl clo77 ?_))
 have hb:=H.below
 have hs:=hb.size
 have hnd:=H.nd
 simp only [List.map_cons,List.map_nil,List.set_cons_zero,List.set_cons_succ,List.nodup_cons,List.mem_cons,List.not_mem_nil,or_false,not_or] at hnd
 have hg4:=H.lti 1 rfl
 have Cw:CdOk cap (fun k=>R k\/k=g4) w6 z f c:=hc.out.mono ((Kp.refl _ _).below hb) (fun k h=>by rcases h with h|h;exact .inl h;right;omega)
 have hR2:∀ k,(R k\/k=g4)->k<w6.heap.size:=fun k h=>by rcases h with h|h;have:=hR k h;omega;omega
 refine (ZgZ _ g1 g2 g3 z f c mn mx 0 cap hcap w6 hmn hmx (H.get 4 rfl) (H.get 3 rfl) (H.get 2 rfl) (fun e=>hnd.2.2.2.1 e.symm) (fun e=>hnd.2.2.1.2 e.symm) (fun e=>hnd.2.2.1.1 e.symm) Cw hR2).mono ?_
 rintro e w7 ⟨sv,rfl,C1,B1⟩
 obtain⟨sa,sc,hsv,_⟩:=C1.val
 subst hsv
 have hlen:=ZbF c mn mx 0 hmn (by omega)
 have SQ:=Zaa (Zch _ _ _ (cap+1) (by decide) w7 C1 (by omega) (fun k hk=>by have:=hR2 k hk;have:=B1.size;omega))
 refine⟨_,rfl,?_⟩
 replace C1:=Zaa C1
 replace Cw:=Zaa Cw
 go_wp2_with fail
 refine SQ.out.mono ?_
 rintro e w8 ⟨z2,f2,rfl,C2,B2⟩
 have B68:=B1.trans (B2.mono B1.size)
 have B08:=hb.trans (B68.mono hs)
 replace H:=H.call B68 (Nat.le_refl _)
 have k0:=H.get 0 rfl
 have k1:=H.get 4 rfl
 have k2:=H.get 3 rfl
 have k3:=H.get 2 rfl
 have l0:=H.lti 0 rfl
 have l1:=H.lti 4 rfl
 have l2:=H.lti 3 rfl
 have l3:=H.lti 2 rfl
 have Cw8:=Zaa (Cw.out.mono ((Kp.refl _ _).below B68) (fun k h=>.inl h))
 have C2sz:SzOk z2 (rp c mn mx).n:=C2.sz
 have C2le:=C2.le
 have H8:St (fun k=>k=g4) w8 w8 [(true,g4,121,cdA 0 .nilFunc)]:=(H.tail).only
 have fin:Hid (∀ w9,But (fun k=>k=g4) w8 w9->CodeP cap R w (rp c mn mx) (.returned (cdV z2 (.func (.func 206) #[] #[.pointer (some ⟨g5,0,none⟩)]))) w9):=fun w9 hb9=>by
  refine CodeP.stored B08 ⟨C2sz,C2le,206,_,rfl,clo81,fun W v I m hK hr hv hl hm=>?_⟩ hb9 q7
  have nn:∀ g,w.heap.size<=g->g<w8.heap.size->g≠g4->¬ (R g\/g=g4):=fun g h1 h2 h3 h=>by rcases h with h|h;have:=hR g h;omega;exact h3 h
  exact Zf7 g5 g1 g2 g3 z f c mn mx cap hcap W v I m hmn hmx (hK.get k0 (nn g5 q9 l0 (fun e=>hnd.1.1 e))) (hK.get k1 (nn g1 q1 l1 (fun e=>hnd.2.1.2.2 e.symm))) (hK.get k2 (nn g2 q3 l2 (fun e=>hnd.2.1.2.1 e.symm))) (hK.get k3 (nn g3 q5 l3 (fun e=>hnd.2.1.1 e.symm))) (fun e=>hnd.2.2.2.1 e.symm) (fun e=>hnd.2.2.1.2 e.symm) (fun e=>hnd.2.2.1.1 e.symm) (Cw8.out.mono hK (fun k hk=>hv k hk)) hr hl hm
 replace C2:=Zaa C2
 clear H k0 k1 k2 k3
 replace hnd:=Zaa hnd
 go_wp2_with (first|((with_reducible refine Zeq 121 ?_);refine ZaI (Zii _ z2 f2 rfl _) ?_)|((with_reducible refine Zbe 121 ?_);refine ZaI (ZbT _ z2 (.func 206) #[] #[.pointer (some ⟨g5,0,none⟩)] rfl rfl _) ?_)|((with_reducible refine Zab 121 ?_);refine ZaU 0 (z':=z2) (f':=.func (.func 206) #[] #[.pointer (some ⟨g5,0,none⟩)]) H8 rfl rfl rfl rfl ?_;clear H8;intro w9 H8))
 refine bodyPost_ret (Zaf rfl _ _ _ _ rfl (ZcI (H8.get 0 rfl))) rfl ?_
 exact fin.out _ H8.but
end
section
open Go.RowKit
section
variable {S:Nat->Prop}{w0 w:World}{L:List Ent}{ops:Array Oper}{rest:List Oper}{a:Act}{Q:Exit->Act->World->Prop}{dst:Option Nat}{x:Operand}{ty:TypeId}{pos:String}{after:Array Edge}
theorem ZlJ (h:wpList Tryz.prog ops Q (⟨dst,.buildSlice 25 1 #[(0,x)],ty,pos,after,none⟩::rest) a w):wpList Tryz.prog ops Q (⟨dst,.buildSlice 25 1 #[(0,x)],ty,pos,after,none⟩::rest) a w:=h
theorem Zg0 (i:Nat)(H:St S w0 w L){b:Bool}{g:Nat}{n:Int}{s:S4}{l:Value}{mn mx:Int}(h:L[i]?=some (b,g,27,reA n s l mn mx))(hx:a.eval x=.pointer (some ⟨g,0,none⟩))(k:wpList Tryz.prog ops Q rest (a.put dst (.int .i64 n)) w):wpList Tryz.prog ops Q (⟨dst,.load 3 x,ty,pos,after,none⟩::rest) a w:=Zax i 0 H h rfl hx k
theorem ZlK (H:St S w0 w L){k:Int}{s:S4}{v:Value}{mn mx:Int}(hx:a.eval x=reV k s v mn mx)
  (h:∀ b w',St S w0 w' ((false,b,27,reA k s v mn mx)::L)->w.heap.size<=b->w0.heap.size<=b->wpList Tryz.prog ops Q rest (a.put dst (.slice (some ⟨b,0,none⟩) 1 1)) w'):wpList Tryz.prog ops Q (⟨dst,.buildSlice 25 1 #[(0,x)],ty,pos,after,none⟩::rest) a w:=by
 refine wpList_plain rfl fun K hK=>?_
 unfold Oper.wp execOp
 simp only [List.map_toArray,List.map_cons,List.map_nil,hx,Sem.run_bind,ZfY,Result.andThen_ok,Sem.run_pure]
 have H1:=H.alloc 27 (reA k s v mn mx)
 refine hK _ _ (h _ _ ⟨H1.but,fun e he=>?_,fun e he hr=>?_,H1.nd⟩ (Nat.le_refl _) H.but.size)
 ·rcases List.mem_cons.1 he with rfl|he
  ·exact H1.all (true,w.heap.size,27,reA k s v mn mx) (by simp)
  ·exact H1.all e (by simp [he])
 ·rcases List.mem_cons.1 he with rfl|he
  ·cases hr
  ·exact H1.ok e (by simp [he]) hr
end
theorem owns_one {w:World}{b:Nat}{k:Int}{s:S4}{v:Value}{mn mx:Int}(h:w.heap[b]?=some (.cells (reA k s v mn mx) 27 (0,0))):w.ownsRow 0 27 8 (.slice (some ⟨b,0,none⟩) 1 1) 1 (reA k s v mn mx).toList :=
 ⟨rfl,.inr ⟨b,1,_,rfl,Nat.zero_le _,h,Nat.le_refl _,by unfold maxLen;omega,rfl,rfl⟩⟩
theorem TrV.repV {w:World}{P:Nat->Prop}{t:Tr}{v:Value}(T:TrV w P (reV t.1.k t.1.s v t.1.mn t.1.mx) t){b:Nat}(h:w.heap[b]?=some (.cells (reA t.1.k t.1.s v t.1.mn t.1.mx) 27 (0,0)))(hb:P b)(mn mx:Int):TrV w P (reV 4 noSet (.slice (some ⟨b,0,none⟩) 1 1) mn mx) (rep t mn mx):=by
 obtain⟨v',zs,e,o,p,k⟩:=T
 have e2:v=v':=by simpa [reV,reA] using e
 subst e2
 refine⟨_,_,rfl,owns_one h,fun x hx=>?_,⟨v,[],zs,by simp,o,p,k,rfl⟩⟩
 have:b=x:=by simpa [Value.ownBlock] using hx
 rw [<- this];exact hb
def ZlL (s:ByteArray)(r:Out):Out:=match r with
 | .error p=>.error p
 | .ok (t,d)=>if (Za6 s d).2.2=true then (if (Za6 s d).1.1=4 then .ok (rep t (Za6 s d).1.2.1 (Za6 s d).1.2.2,(Za6 s d).2.1) else .ok (t,(Za6 s d).2.1)) else .error (Za6 s d).2.1
theorem ZlM (br:Nat->Out)(s:ByteArray)(a:Nat):Zfq br s a=ZlL s (Zh7 br s a):=rfl
theorem ZlN (n:Nat)(hn:0<n)(s:ByteArray)(hs:s.size<=256)(o:Int)(br:Nat->Out)(hbr:BrOk n s o br)(D:Nat)(hD:1<=D)(hg:Zdi s D br)(w:World)(hT:Tab w)(a:Nat)(ha:a<=s.size)(hE:Ev w n s a o true) :
  Calls Tryz.prog 120 #[.pointer (some ⟨n+6,0,none⟩),.pointer (some ⟨n+3,0,none⟩),.pointer (some ⟨n,0,none⟩),.pointer (some ⟨n+1,0,none⟩)] w (Post n s o w (Zfq br s a)):=by
 have H:St (S3 n) w w (env n s a o true):=hE.st
 rw [ZlM]
 have PA:=Zaa (fun w hT hE=>atom_any n hn s hs o br hbr w hT a ha hE)
 have gA:=ZgQ hD hg a ha
 generalize Zh7 br s a=rA at PA gA ⊢
 replace hbr:=Zaa hbr
 replace hg:=Zaa hg
 generalize hres:ZlL s rA=res
 replace hres:=Zaa hres
 go_enter Tryz.func120,Tryz.ntmps120
 go_wp2_with (first|(with_reducible refine Zae 27 ?_;refine Zap H ?_;clear H;intro g w' H q1 q2)|(with_reducible refine Zac 9 ?_;first|(refine Zbn 4 0 H rfl rfl rfl ?_))|(with_reducible refine Zac 3 ?_;first|(refine Zax 1 0 H rfl rfl rfl ?_))|(with_reducible refine Zac 4 ?_;first|(refine Za3 3 0 H rfl rfl rfl ?_))|(with_reducible refine Zac 183 ?_;first|(refine ZaH 7 0 H rfl rfl rfl ?_;simp only [brF,atF,piF,seF,alF])))
 have P1:=PA.out _ (ZdA hT H hn) (St.ev (M:=[_]) H)
 have hgl:=H.lti 0 rfl
 have hge:=q1
 have hE8:=(St.ev (M:=[_]) H).lt
 have hs1:=H.but.size
 refine P1.mono ?_
 rintro e w2 ⟨x,t,a',o',r',rfl,T,E2,B2,A2⟩
 have W2:=St.closure (M:=[_]) H B2 (fun i _ h=>h) E2
 have hs2:=B2.size
 have hT2:=Zaa (ZdA hT W2 hn)
 clear H P1 PA
 have H:=St.rebaseE (M:=[_]) W2 (fun k=>k=g) (fun x hx=>by simp only [List.mem_cons,List.not_mem_nil,or_false] at hx;subst hx;rfl)
 obtain⟨va,vn,vc,hx⟩:=T.val
 subst hx
 have keep:Hid (∀ w',But (fun k=>S3 n k\/k=g) w2 w'->TrV w' (fun b=>w.heap.size<=b/\b<w2.heap.size) (reV t.1.k t.1.s (.slice va vn vc) t.1.mn t.1.mx) t):=fun w' hb =>
  ((T.mono (P':=fun b=>(w.heap.size<=b/\b<w2.heap.size)/\b≠g/\¬ S3 n b) (fun b hb hP=>by simp only [S3];omega)).kept (fun b hP hl=>hb.block b hl (fun h=>by rcases h with h|h;exact hP.2.2 h;exact hP.2.1 h))).mono (fun b _ hP=>hP.1)
 have fin:Hid (∀ w',But (fun k=>S3 n k\/k=g) w2 w'->But (S3 n) w w'):=fun w' hb=>W2.but.trans hb (fun i hi h=>by rcases h with h|h;exact h;omega)
 clear T B2 E2 W2
 cases rA with
 | error p =>
  obtain⟨rfl,rfl⟩:=A2
  subst hres
  go_wp2_with (first|(with_reducible refine Zae 27 ?_;refine Zap H ?_;clear H;intro g5 w' H q1 q2)|(with_reducible refine Zac 9 ?_;first|(refine Zbn 5 0 H rfl rfl rfl ?_))|(with_reducible refine Zac 3 ?_;first|(refine Zax 2 0 H rfl rfl rfl ?_))|(with_reducible refine Zac 4 ?_;first|(refine Za3 4 0 H rfl rfl rfl ?_))|(with_reducible refine Zac 183 ?_;first|(refine ZaH 8 0 H rfl rfl rfl ?_;simp only [brF,atF,piF,seF,alF]))|(with_reducible refine Zac 27 ?_;refine Zas 0 H rfl rfl ?_)|(with_reducible refine Zab 27 ?_;first|(refine Zao 0 H rfl rfl rfl rfl ?_;clear H;intro w' H)|(refine Zao 1 H rfl rfl rfl rfl ?_;clear H;intro w' H)))
  refine bodyPost_ret (Zaf rfl _ _ _ _ rfl (ZaG (H.get 1 rfl))) rfl ?_
  exact⟨_,t,a',o',false,rfl,(keep.out _ H.but).mono (fun b _ h=>h.1),St.ev (M:=[_,_]) H,fin.out _ H.but,⟨rfl,rfl⟩⟩
 | ok td =>
  obtain⟨t',d⟩:=td
  obtain⟨rfl,rfl,rfl,rfl⟩:=A2
  obtain⟨c1,c2,c3,c4,c5⟩:=gA
  replace c3:=Zaa c3
  replace c4:=Zaa c4
  replace c5:=Zaa c5
  have PT:=Zaa (fun w z hz=>Zln s hs a' c2 w (z:=z) hz)
  simp only [ZlL] at hres
  generalize Za6 s a'=r0 at PT hres
  obtain⟨⟨tk,tm,tx⟩,d2,ok2⟩:=r0
  simp only at PT hres
  go_wp2_with (first|(with_reducible refine Zae 27 ?_;refine Zap H ?_;clear H;intro g6 w' H q1 q2)|(with_reducible refine Zac 9 ?_;first|(refine Zbn 5 0 H rfl rfl rfl ?_)|(refine Zbn 6 0 H rfl rfl rfl ?_))|(with_reducible refine Zac 3 ?_;first|(refine Zax 2 0 H rfl rfl rfl ?_)|(refine Zax 3 0 H rfl rfl rfl ?_))|(with_reducible refine Zac 4 ?_;first|(refine Za3 4 0 H rfl rfl rfl ?_)|(refine Za3 5 0 H rfl rfl rfl ?_))|(with_reducible refine Zac 183 ?_;first|(refine ZaH 8 0 H rfl rfl rfl ?_;simp only [brF,atF,piF,seF,alF])|(refine ZaH 9 0 H rfl rfl rfl ?_;simp only [brF,atF,piF,seF,alF]))|(with_reducible refine Zac 27 ?_;refine Zas 0 H rfl rfl ?_)|(with_reducible refine Zab 27 ?_;first|(refine Zao 0 H rfl rfl rfl rfl ?_;clear H;intro w' H)|(refine Zao 1 H rfl rfl rfl rfl ?_;clear H;intro w' H)))
  refine (PT.out _ _ rfl).mono ?_
  rintro e w3 ⟨rfl,b3⟩
  replace H:=H.call b3 (Nat.le_refl _)
  by_cases h4:tk=4
  ·subst h4
   go_wp2_with (first|(with_reducible refine Zac 3 ?_;refine Zg0 0 H rfl rfl ?_)|(with_reducible refine Zac 9 ?_;first|(refine Zbn 6 0 H rfl rfl rfl ?_))|(with_reducible refine Zac 3 ?_;first|(refine Zax 3 0 H rfl rfl rfl ?_))|(with_reducible refine Zac 4 ?_;first|(refine Za3 5 0 H rfl rfl rfl ?_))|(with_reducible refine Zac 183 ?_;first|(refine ZaH 9 0 H rfl rfl rfl ?_;simp only [brF,atF,piF,seF,alF]))|(with_reducible refine Zab 3 ?_;first|(refine Zbj 3 H rfl rfl rfl ?_;clear H;intro w' H))|(with_reducible refine Zab 4 ?_;refine Zb8 5 H rfl rfl rfl ?_;clear H;intro w' H)|(with_reducible refine Zac 27 ?_;first|(refine Zas 2 H rfl rfl ?_)|(refine Zas 1 H rfl rfl ?_))|(with_reducible refine ZlJ ?_;refine ZlK H rfl ?_;clear H;intro b w' H u1 u2)|(with_reducible refine Zab 25 ?_;refine Zll 1 H rfl rfl rfl ?_;clear H;intro w' H)|(with_reducible refine Zab 27 ?_;first|(refine Zao 0 H rfl rfl rfl rfl ?_;clear H;intro w' H)|(refine Zao 3 H rfl rfl rfl rfl ?_;clear H;intro w' H)))
   have hbb:=H.get 0 rfl
   refine bodyPost_ret (Zaf rfl _ _ _ _ rfl (ZaG (H.get 3 rfl))) rfl ?_
   refine⟨_,rep t tm tx,d2,o',ok2,rfl,TrV.repV ((keep.out _ H.but).mono (fun b _ h=>h.1)) hbb (by omega) tm tx,St.ev (M:=[_,_,_,_]) H,fin.out _ H.but,?_⟩
   rw [<- hres.out]
   cases ok2 with
   | true=>exact⟨rfl,rfl,by simp,rfl⟩
   | false=>exact⟨rfl,rfl⟩
  ·have n4:(tk == 4)=false:=beq_eq_false_iff_ne.2 h4
   replace h4:=Zaa h4
   go_wp2_with (first|(with_reducible refine Zac 3 ?_;refine Zg0 0 H rfl rfl ?_)|(with_reducible refine Zac 9 ?_;first|(refine Zbn 6 0 H rfl rfl rfl ?_))|(with_reducible refine Zac 3 ?_;first|(refine Zax 3 0 H rfl rfl rfl ?_))|(with_reducible refine Zac 4 ?_;first|(refine Za3 5 0 H rfl rfl rfl ?_))|(with_reducible refine Zac 183 ?_;first|(refine ZaH 9 0 H rfl rfl rfl ?_;simp only [brF,atF,piF,seF,alF]))|(with_reducible refine Zab 3 ?_;first|(refine Zbj 3 H rfl rfl rfl ?_;clear H;intro w' H))|(with_reducible refine Zab 4 ?_;refine Zb8 5 H rfl rfl rfl ?_;clear H;intro w' H)|(with_reducible refine Zac 27 ?_;refine Zas 1 H rfl rfl ?_)|(with_reducible refine Zab 27 ?_;first|(refine Zao 0 H rfl rfl rfl rfl ?_;clear H;intro w' H)|(refine Zao 2 H rfl rfl rfl rfl ?_;clear H;intro w' H)))
   refine bodyPost_ret (Zaf rfl _ _ _ _ rfl (ZaG (H.get 2 rfl))) rfl ?_
   refine⟨_,t,d2,o',ok2,rfl,(keep.out _ H.but).mono (fun b _ h=>h.1),St.ev (M:=[_,_,_]) H,fin.out _ H.but,?_⟩
   rw [<- hres.out,if_neg h4.out]
   cases ok2 with
   | true=>exact⟨rfl,rfl,rfl,rfl⟩
   | false=>exact⟨rfl,rfl⟩
open Go.RowKit
def muP (s:ByteArray)(n:Nat)(w:World):Nat:=okN ((w.cell? ⟨n+3,0,none⟩).getD undef) * (s.size+2 - (intOf ((w.cell? ⟨n+1,0,none⟩).getD undef)).toNat)
theorem Zjv {s:ByteArray}{n:Nat}{w:World}{a:Nat}{o:Int}{r:Bool}(h:Ev w n s a o r):muP s n w=okN (.bool r) * (s.size+2 - a):=by
 have c1:w.cell? ⟨n+3,0,none⟩=some (.bool r):=by rw [cell_of_row w (n+3) 0 _ 4 (0,0) (h (true,n+3,4,#[.bool r]) (by simp [env]))];rfl
 have c2:w.cell? ⟨n+1,0,none⟩=some (.int .i64 (a:Int)):=by rw [cell_of_row w (n+1) 0 _ 3 (0,0) (h (true,n+1,3,#[.int .i64 (a:Int)]) (by simp [env]))];rfl
 unfold muP
 rw [c1,c2]
 simp [intOf]
def SqI (L:Nat->Fo->Nat->Except Nat (Fo × Nat))(s:ByteArray)(R:Except Nat (Fo × Nat))(f:Fo)(a:Nat)(o' o:Int)(r:Bool):Prop :=
 (r=true->∃ N,s.size - a<N/\L N f a=R/\o'=o)/\(r=false->R=.error a)
def togE (k:Int)(r:Except Nat (Fo × Nat)):Out:=match r with
 | .error p=>.error p
 | .ok (f,d)=>.ok (tog k f,d)
theorem seqM_eq (br:Nat->Out)(s:ByteArray)(a:Nat):Zlp br s a=togE 2 (Zlo br s (s.size+1 - a) .nil a):=rfl
theorem SqI.agree {L:Nat->Fo->Nat->Except Nat (Fo × Nat)}{s:ByteArray}{R:Except Nat (Fo × Nat)}{f:Fo}{a:Nat}{o' o:Int}{r:Bool}(h:SqI L s R f a o' o r)(k:Int)(he:r=true->R=.ok (f,a)):Agree (togE k R) (tog k f) a o' r o:=by
 cases r with
 | false=>rw [h.2 rfl];exact⟨rfl,rfl⟩
 | true=>obtain⟨N,_,_,e⟩:=h.1 rfl;rw [he rfl];exact⟨rfl,rfl,rfl,e⟩
theorem Zg1 {n g:Nat}{s:ByteArray}{a:Nat}{o:Int}{r:Bool}{e1:Ent}(h1:e1.2.1=g)(hg:n+8<g):∀ e ∈ [e1]++env n s a o r,e.2.1<g+1:=fun e he=>by
 simp only [env,List.cons_append,List.nil_append,List.mem_cons,List.not_mem_nil,or_false] at he
 rcases he with rfl|rfl|rfl|rfl|rfl|rfl|rfl|rfl|rfl|rfl <;> first|omega|(simp only;omega)
theorem seq_any (n:Nat)(hn:0<n)(s:ByteArray)(hs:s.size<=256)(o:Int)(br:Nat->Out)(hbr:BrOk n s o br)(D:Nat)(hD:1<=D)(hg:Zdi s D br)(w:World)(hT:Tab w)(a:Nat)(ha:a<=s.size)(hE:Ev w n s a o true) :
  Calls Tryz.prog 122 #[.pointer (some ⟨n+3,0,none⟩),.pointer (some ⟨n+1,0,none⟩),.pointer (some ⟨n,0,none⟩),.pointer (some ⟨n+7,0,none⟩)] w (Post n s o w (Zlp br s a)):=by
 have H:St (S3 n) w w (env n s a o true):=hE.st
 rw [seqM_eq]
 generalize hR:Zlo br s (s.size+1 - a) .nil a=R
 have PP:=Zaa (fun a ha w hT hE=>ZlN n hn s hs o br hbr D hD hg w hT a ha hE)
 have GP:=Zaa (fun a ha=>Zfr hD hg a ha)
 have hE8:=hE.lt
 have hI0:Hid (SqI (Zlo br s) s R .nil a o o true):=⟨fun _=>⟨_,by omega,hR,rfl⟩,fun h=>(by cases h)⟩
 replace hR:=Zaa hR
 replace hbr:=Zaa hbr
 replace hg:=Zaa hg
 go_enter Tryz.func122,Tryz.ntmps122
 go_wp2_with (first|(with_reducible refine Zae 27 ?_;refine Zap H ?_;clear H;intro g w' H q1 q2))
 have hsz:=H.lti 0 rfl
 go_loopw [5] (fun l wr=>∃ f a' o' r,Hid (St (S3 n) w wr ([(true,g,27,reA 0 noSet (.slice none 0 0) 0 0)]++env n s a' o' r))/\Hid (Rw wr (g+1) l f)/\Hid (SqI (Zlo br s) s R f a' o' o r)/\a'<=s.size/\Hid ((r=true->f.len<=a')/\f.len<=s.size+1)) (fun _ wr=>muP s n wr)
 case atStart=>exact⟨.nil,a,o,true,H,Rw.start _ _,hI0,ha,⟨fun _=>Nat.zero_le _,Nat.zero_le _⟩⟩
 case round =>
  clear H hsz
  obtain⟨f,a',o',r,H1,R1,hI,ha',hf⟩:=hrel
  have H:=H1.out
  clear H1
  have hgl:=H.lti 0 rfl
  obtain⟨ra,rc,hv,-,-⟩:∃ x c,u5=.slice x f.len c/\True/\True:=by
   obtain⟨xs,ro,_⟩:=R1.out
   obtain⟨x,c,e,_,_⟩:=ZaR ro
   exact⟨x,c,e,trivial,trivial⟩
  subst hv
  generalize hv:Value.slice ra f.len rc=v at *
  have cA:=H.cell 1 0 rfl (v:=.int .i64 (a':Int)) rfl
  have cR:=H.cell 3 0 rfl (v:=.bool r) rfl
  have cS:=H.cell 4 0 rfl (v:=.string s) rfl
  by_cases hc:r=true/\a'<s.size/\bt s a'≠124/\bt s a'≠41
  ·obtain⟨rfl,hlt,n124,n41⟩:=hc
   have i1:(a':Int)<(s.size:Int):=by omega
   have bk:=bt_eq hlt
   have t1:(((s[a']'hlt).toNat:Int) != 124)=true:=by rw [bk];simpa using n124
   have t2:(((s[a']'hlt).toNat:Int) != 41)=true:=by rw [bk];simpa using n41
   obtain⟨N,hN,hL,ho⟩:=hI.out.1 rfl
   subst ho
   obtain⟨m,rfl⟩:∃ m,N=m+1:=⟨N - 1,by omega⟩
   rw [Zlo,if_pos ⟨hlt,n124,n41⟩] at hL
   have P1:=Zaa (PP.out a' ha' wr)
   have G1:=GP.out a' ha'
   generalize Zfq br s a'=rp at P1 G1 hL
   replace n124:=Zaa n124
   replace n41:=Zaa n41
   replace hL:=Zaa hL
   replace bk:=Zaa bk
   have mu1:=Zaa (Zjv (St.ev (M:=[_]) H))
   have hf1:=hf.out.1 rfl
   clear hI PP GP hf
   go_wp2_with (first|(with_reducible refine Zac 9 ?_;first|(refine Zbn 4 0 H rfl rfl rfl ?_))|(with_reducible refine Zac 3 ?_;first|(refine Zax 1 0 H rfl rfl rfl ?_))|(with_reducible refine Zac 4 ?_;first|(refine Za3 3 0 H rfl rfl rfl ?_))|(with_reducible refine Zac 183 ?_;first|(refine ZaH 5 0 H rfl rfl rfl ?_;simp only [brF,atF,piF,seF,alF])|(refine ZaH 6 0 H rfl rfl rfl ?_;simp only [brF,atF,piF,seF,alF])|(refine ZaH 7 0 H rfl rfl rfl ?_;simp only [brF,atF,piF,seF,alF])|(refine ZaH 8 0 H rfl rfl rfl ?_;simp only [brF,atF,piF,seF,alF])|(refine ZaH 9 0 H rfl rfl rfl ?_;simp only [brF,atF,piF,seF,alF])))
   refine (P1.out (ZdA hT H hn) (St.ev (M:=[_]) H)).mono ?_
   rintro e w3 ⟨x,t,a2,o2,r2,rfl,T,E3,B3,A3⟩
   have R3:=Zaa (R1.out.kept (w':=w3) (fun b hb hl=>B3.block b hl (fun h=>by simp only [S3] at h;omega)))
   have hs3:=B3.size
   have hown:∀ k,v.ownBlock=some k->k<wr.heap.size:=fun k hk=>(R1.out.lt hk).2
   replace H:=St.closure (M:=[_]) H B3 (fun i _ h=>h) E3
   obtain⟨va,vn,vc,hx⟩:=T.val
   subst hx
   clear cA cR cS P1
   have facts:a2<=s.size/\((r2=true->(f.snoc t).len<=a2)/\(f.snoc t).len<=s.size+1)/\okN (.bool r2) * (s.size+2 - a2)<s.size+2 - a'/\SqI (Zlo br s) s R (f.snoc t) a2 o2 o' r2:=by
    cases rp with
    | error p =>
     obtain⟨rfl,rfl⟩:=A3
     refine⟨G1,⟨fun h=>(by cases h),by rw [Fo.len_snoc];omega⟩,by simp [okN];omega,fun h=>(by cases h),fun _=>hL.out.symm⟩
    | ok td =>
     obtain⟨t',d⟩:=td
     obtain⟨rfl,rfl,rfl,rfl⟩:=A3
     obtain⟨g1,g2,-⟩:=G1
     exact⟨g2,⟨fun _=>by rw [Fo.len_snoc];omega,by rw [Fo.len_snoc];omega⟩,by simp [okN];omega,fun _=>⟨m,by omega,hL.out,rfl⟩,fun h=>(by cases h)⟩
   obtain⟨k1,k2,k3,k4⟩:=facts
   replace k2:=Zaa k2
   replace k3:=Zaa k3
   replace k4:=Zaa k4
   go_wp2_with (first|(with_reducible refine Zlr ?_;refine Zls (L:=[_]++env n s a2 o2 r2) H R3.out T (fun _=>rfl) (fun _=>rfl) rfl hown (by omega) hs3 (by omega) (Zg1 rfl (by omega)) (by omega) ?_;clear H;intro u v2 w' H R4 hz))
   go_roundw
   case rel=>exact⟨f.snoc t,a2,o2,r2,H,R4,k4,k1,k2⟩
   case measure =>
    show muP s n _<muP s n wr
    rw [Zjv (St.ev (M:=[_]) H),mu1.out]
    have:=k3.out;simpa [okN] using this
  ·have hend:r=true->R=.ok (f,a'):=fun hr=>by
    obtain⟨N,hN,hL,_⟩:=hI.out.1 hr
    obtain⟨m,rfl⟩:∃ m,N=m+1:=⟨N - 1,by omega⟩
    rw [<- hL,Zlo,if_neg (fun h=>hc ⟨hr,h⟩)]
   replace hend:=Zaa hend
   have hf2:=hf.out.2
   have TG:=Zaa (fun xs ro rk=>Zcg 2 f v wr (fun b=>g+1<=b) xs ro (fun b hb=>(R1.out.lt hb).1) rk)
   clear PP GP hf
   cases r with
   | false =>
    clear hc
    go_wp2_with fail
    obtain⟨xs,ro,rk⟩:=R1.out
    refine (TG.out xs (ZbR ro (Nat.zero_le _)) (rk.mono (fun b _ h=>h.1))).mono ?_
    rintro e w4 ⟨x,rfl,T4,b4⟩
    have W4:=H.call b4 (Nat.le_refl _)
    clear H TG ro rk
    have H:=St.rebaseE (M:=[_]) W4 (fun k=>k=g) (fun x hx=>by simp only [List.mem_cons,List.not_mem_nil,or_false] at hx;subst hx;rfl)
    obtain⟨va,vn,vc,hx⟩:=T4.val
    subst hx
    clear cA cR cS
    go_wp2_with (first|(with_reducible refine Zab 27 ?_;refine Zao 0 H rfl rfl rfl rfl ?_;clear H;intro w' H))
    refine bodyPost_ret (Zaf rfl _ _ _ _ rfl (ZaG (H.get 0 rfl))) rfl ?_
    refine⟨_,tog 2 f,a',o',_,rfl,?_,St.ev (M:=[_]) H,W4.but.trans H.but (fun i hi h=>by rcases h with h|h;exact h;omega),hI.out.agree 2 (fun h=>hend.out (by first|exact h|trivial))⟩
    exact (T4.kept (fun b hP hb=>H.but.block b hb (fun h=>by rcases h with h|h;simp only [S3] at h;omega;omega))).mono (fun b _ hP=>by omega)
   | true =>
    by_cases hlt:a'<s.size
    ·have i1:(a':Int)<(s.size:Int):=by omega
     have bk:=bt_eq hlt
     by_cases h124:bt s a'=124
     ·have t1:(((s[a']'hlt).toNat:Int) != 124)=false:=by rw [bk,h124];rfl
      replace h124:=Zaa h124
      replace bk:=Zaa bk
      replace hc:=Zaa hc
      go_wp2_with fail
      obtain⟨xs,ro,rk⟩:=R1.out
      refine (TG.out xs (ZbR ro (Nat.zero_le _)) (rk.mono (fun b _ h=>h.1))).mono ?_
      rintro e w4 ⟨x,rfl,T4,b4⟩
      have W4:=H.call b4 (Nat.le_refl _)
      clear H TG ro rk
      have H:=St.rebaseE (M:=[_]) W4 (fun k=>k=g) (fun x hx=>by simp only [List.mem_cons,List.not_mem_nil,or_false] at hx;subst hx;rfl)
      obtain⟨va,vn,vc,hx⟩:=T4.val
      subst hx
      clear cA cR cS
      go_wp2_with (first|(with_reducible refine Zab 27 ?_;refine Zao 0 H rfl rfl rfl rfl ?_;clear H;intro w' H))
      refine bodyPost_ret (Zaf rfl _ _ _ _ rfl (ZaG (H.get 0 rfl))) rfl ?_
      refine⟨_,tog 2 f,a',o',_,rfl,?_,St.ev (M:=[_]) H,W4.but.trans H.but (fun i hi h=>by rcases h with h|h;exact h;omega),hI.out.agree 2 (fun h=>hend.out (by first|exact h|trivial))⟩
      exact (T4.kept (fun b hP hb=>H.but.block b hb (fun h=>by rcases h with h|h;simp only [S3] at h;omega;omega))).mono (fun b _ hP=>by omega)
     ·have h41:bt s a'=41:=Classical.byContradiction fun h=>hc ⟨rfl,hlt,h124,h⟩
      have t1:(((s[a']'hlt).toNat:Int) != 124)=true:=by rw [bk];simpa using h124
      have t2:(((s[a']'hlt).toNat:Int) != 41)=false:=by rw [bk,h41];rfl
      replace h124:=Zaa h124
      replace h41:=Zaa h41
      replace bk:=Zaa bk
      replace hc:=Zaa hc
      go_wp2_with fail
      obtain⟨xs,ro,rk⟩:=R1.out
      refine (TG.out xs (ZbR ro (Nat.zero_le _)) (rk.mono (fun b _ h=>h.1))).mono ?_
      rintro e w4 ⟨x,rfl,T4,b4⟩
      have W4:=H.call b4 (Nat.le_refl _)
      clear H TG ro rk
      have H:=St.rebaseE (M:=[_]) W4 (fun k=>k=g) (fun x hx=>by simp only [List.mem_cons,List.not_mem_nil,or_false] at hx;subst hx;rfl)
      obtain⟨va,vn,vc,hx⟩:=T4.val
      subst hx
      clear cA cR cS
      go_wp2_with (first|(with_reducible refine Zab 27 ?_;refine Zao 0 H rfl rfl rfl rfl ?_;clear H;intro w' H))
      refine bodyPost_ret (Zaf rfl _ _ _ _ rfl (ZaG (H.get 0 rfl))) rfl ?_
      refine⟨_,tog 2 f,a',o',_,rfl,?_,St.ev (M:=[_]) H,W4.but.trans H.but (fun i hi h=>by rcases h with h|h;exact h;omega),hI.out.agree 2 (fun h=>hend.out (by first|exact h|trivial))⟩
      exact (T4.kept (fun b hP hb=>H.but.block b hb (fun h=>by rcases h with h|h;simp only [S3] at h;omega;omega))).mono (fun b _ hP=>by omega)
    ·have i1:¬ ((a':Int)<(s.size:Int)):=by omega
     clear hc
     go_wp2_with fail
     obtain⟨xs,ro,rk⟩:=R1.out
     refine (TG.out xs (ZbR ro (Nat.zero_le _)) (rk.mono (fun b _ h=>h.1))).mono ?_
     rintro e w4 ⟨x,rfl,T4,b4⟩
     have W4:=H.call b4 (Nat.le_refl _)
     clear H TG ro rk
     have H:=St.rebaseE (M:=[_]) W4 (fun k=>k=g) (fun x hx=>by simp only [List.mem_cons,List.not_mem_nil,or_false] at hx;subst hx;rfl)
     obtain⟨va,vn,vc,hx⟩:=T4.val
     subst hx
     clear cA cR cS
     go_wp2_with (first|(with_reducible refine Zab 27 ?_;refine Zao 0 H rfl rfl rfl rfl ?_;clear H;intro w' H))
     refine bodyPost_ret (Zaf rfl _ _ _ _ rfl (ZaG (H.get 0 rfl))) rfl ?_
     refine⟨_,tog 2 f,a',o',_,rfl,?_,St.ev (M:=[_]) H,W4.but.trans H.but (fun i hi h=>by rcases h with h|h;exact h;omega),hI.out.agree 2 (fun h=>hend.out (by first|exact h|trivial))⟩
     exact (T4.kept (fun b hP hb=>H.but.block b hb (fun h=>by rcases h with h|h;simp only [S3] at h;omega;omega))).mono (fun b _ hP=>by omega)
open Go.RowKit
theorem wl_st3b {S:Nat->Prop}{w0 w:World}{L:List Ent}{ops:Array Oper}{rest:List Oper}{a:Act}{Q:Exit->Act->World->Prop}{x y:Operand}{ty:TypeId}{pos:String}{after:Array Edge}(i:Nat)(H:St S w0 w L){g:Nat}{u:Value}{v:Int}(h:L[i]?=some (true,g,3,#[u]))(hx:a.eval x=.pointer (some ⟨g,0,none⟩))(hy:a.eval y=.int .i64 v)
  (k:∀ w',St S w0 w' (L.set i (true,g,3,#[.int .i64 v]))->But (fun k=>k=g) w w'->wpList Tryz.prog ops Q rest a w'):wpList Tryz.prog ops Q (⟨none,.store 3 x y,ty,pos,after,none⟩::rest) a w:=by
 have H2:=H.rebase (fun k=>k=g\/∃ x ∈ L,x.1=true/\x.2.1=k/\k≠g) (fun x hx hr=>by
  by_cases e:x.2.1=g
  ·exact .inl e
  ·exact .inr ⟨x,hx,hr,rfl,e⟩)
 refine wpList_plain rfl fun K hK=>?_
 have hgt:=H.get i h
 have hc:w.cell? ⟨g,0,none⟩=some u:=H.cell i 0 h rfl
 have hf:=H.fz i 0 h
 have hst:(storeVar 3 ⟨g,0,none⟩ (.int .i64 v)).run Tryz.prog w=.ok () (w.setCell ⟨g,0,none⟩ (.int .i64 v)):=by
  have e:(storeCells ⟨g,0,none⟩ [.int .i64 v]).run Tryz.prog w=.ok () (w.setCell ⟨g,0,none⟩ (.int .i64 v)):=by simp [storeCells,go_sem,stored,hc,hf]
  unfold storeVar
  have e4:(Value.int IntKind.i64 v).cells=#[.int .i64 v]:=rfl
  simp only [Sem.run_bind,one3,Result.andThen_ok,e4]
  simpa using e
 unfold Oper.wp execOp
 simp only [hx,hy,Instr.storeAt,Instr.sureAddr,Sem.run_bind,Sem.run_pure,Result.andThen_ok,hst]
 refine hK _ _ (k _ (H.setCell i h 0 (.int .i64 v)) ?_)
 rw [setCell_eq_setRow w g 0 _ 3 (0,0) _ hgt]
 exact (But.refl (fun k=>k=g) w).setRow (fun _=>rfl) _
theorem St.comb {S S':Nat->Prop}{w0 w1 w2:World}{L1 L2:List Ent}(H1:St S w0 w1 L1)(H2:St S' w1 w2 L2)(h:∀ i,i<w0.heap.size->S' i->S i):St S w0 w2 L2 :=
 ⟨H1.but.trans H2.but h,H2.all,fun x hx hr hl=>h _ hl (H2.ok x hx hr (Nat.lt_of_lt_of_le hl H1.but.size)),H2.nd⟩
theorem Rw.one {w:World}{base:Nat}{t:Tr}{v:Value}{b:Nat}(T:TrV w (fun x=>base<=x/\x≠b) (reV t.1.k t.1.s v t.1.mn t.1.mx) t)(h:w.heap[b]?=some (.cells (reA t.1.k t.1.s v t.1.mn t.1.mx) 27 (0,0)))(hb:base<=b):Rw w base (.slice (some ⟨b,0,none⟩) 1 1) (Fo.nil.snoc t):=by
 obtain⟨v',zs,e,o,p,k⟩:=T
 have e2:v=v':=by simpa [reV,reA] using e
 subst e2
 have hne:∀ x,x≠b->(Value.slice (some ⟨b,0,none⟩) 1 1).ownBlock≠some x:=fun x hx e=>hx (by simpa [Value.ownBlock] using e.symm)
 refine⟨(reA t.1.k t.1.s v t.1.mn t.1.mx).toList,⟨rfl,.inr ⟨b,1,_,rfl,hb,h,Nat.le_refl _,by unfold maxLen;omega,rfl,rfl⟩⟩,⟨v,[],zs,by simp,o,fun x hx=>⟨(p x hx).1,hne x (p x hx).2⟩,k.mono (fun x _ hx=>⟨hx.1,hne x hx.2⟩),rfl⟩⟩
def altR (br:Nat->Out)(s:ByteArray)(r:Out):Except Nat (Fo × Nat):=match r with
 | .error p=>.error p
 | .ok (t,d)=>altL br s (s.size+1 - d) (Fo.nil.snoc t) d
theorem altM_eq (br:Nat->Out)(s:ByteArray)(a:Nat):Zk7 br s a=togE 3 (altR br s (Zlp br s a)):=by
 unfold Zk7 altR togE
 cases Zlp br s a with
 | error p=>rfl
 | ok td=>rfl
theorem ZlO (n:Nat)(hn:0<n)(s:ByteArray)(hs:s.size<=256)(o:Int)(br:Nat->Out)(hbr:BrOk n s o br)(D:Nat)(hD:1<=D)(hg:Zdi s D br)(w:World)(hT:Tab w)(a:Nat)(ha:a<=s.size)(hE:Ev w n s a o true) :
  Calls Tryz.prog 124 #[.pointer (some ⟨n+8,0,none⟩),.pointer (some ⟨n+3,0,none⟩),.pointer (some ⟨n,0,none⟩),.pointer (some ⟨n+1,0,none⟩)] w (Post n s o w (Zk7 br s a)):=by
 have H:St (S3 n) w w (env n s a o true):=hE.st
 rw [altM_eq]
 have PP:=Zaa (fun a ha w hT hE=>seq_any n hn s hs o br hbr D hD hg w hT a ha hE)
 have GP:=Zaa (fun a ha=>ZfZ hD hg a ha)
 have hE8:=hE.lt
 have P0:=Zaa (PP.out a ha)
 have G0:=GP.out a ha
 generalize Zlp br s a=r0 at P0 G0 ⊢
 generalize hR:altR br s r0=R
 replace hR:=Zaa hR
 replace hbr:=Zaa hbr
 replace hg:=Zaa hg
 go_enter Tryz.func124,Tryz.ntmps124
 go_wp2_with (first|(with_reducible refine Zae 27 ?_;refine Zap H ?_;clear H;intro g w' H q1 q2)|(with_reducible refine Zac 9 ?_;first|(refine Zbn 4 0 H rfl rfl rfl ?_))|(with_reducible refine Zac 3 ?_;first|(refine Zax 1 0 H rfl rfl rfl ?_))|(with_reducible refine Zac 4 ?_;first|(refine Za3 3 0 H rfl rfl rfl ?_))|(with_reducible refine Zac 183 ?_;first|(refine ZaH 5 0 H rfl rfl rfl ?_;simp only [brF,atF,piF,seF,alF])|(refine ZaH 6 0 H rfl rfl rfl ?_;simp only [brF,atF,piF,seF,alF])|(refine ZaH 7 0 H rfl rfl rfl ?_;simp only [brF,atF,piF,seF,alF])|(refine ZaH 8 0 H rfl rfl rfl ?_;simp only [brF,atF,piF,seF,alF])|(refine ZaH 9 0 H rfl rfl rfl ?_;simp only [brF,atF,piF,seF,alF])))
 have hgl:=H.lti 0 rfl
 have hs1:=H.but.size
 refine (P0.out _ (ZdA hT H hn) (St.ev (M:=[_]) H)).mono ?_
 rintro e w2 ⟨x,t,a1,o1,r1,rfl,T,E2,B2,A2⟩
 have W2:=St.closure (M:=[_]) H B2 (fun i _ h=>h) E2
 have hs2:=B2.size
 clear H
 have H:=St.rebaseE (M:=[_]) W2 (fun k=>k=g) (fun x hx=>by simp only [List.mem_cons,List.not_mem_nil,or_false] at hx;subst hx;rfl)
 obtain⟨va,vn,vc,hx⟩:=T.val
 subst hx
 have ini:a1<=s.size/\SqI (altL br s) s R (Fo.nil.snoc t) a1 o1 o r1:=by
  cases r0 with
  | error p =>
   obtain⟨rfl,rfl⟩:=A2
   exact⟨G0,fun h=>(by cases h),fun _=>hR.out.symm⟩
  | ok td =>
   obtain⟨t',d⟩:=td
   obtain⟨rfl,rfl,rfl,rfl⟩:=A2
   obtain⟨g1,g2,-⟩:=G0
   exact⟨g2,fun _=>⟨_,by omega,hR.out,rfl⟩,fun h=>(by cases h)⟩
 obtain⟨ha1,hI0⟩:=ini
 replace hI0:=Zaa hI0
 go_wp2_with (first|(with_reducible refine ZlJ ?_;refine ZlK H rfl ?_;clear H;intro b w' H u1 u2))
 have hbb:=H.get 0 rfl
 have R0:Hid (Rw w' (g+1) (.slice (some ⟨b,0,none⟩) 1 1) (Fo.nil.snoc t)):=Rw.one (((T.mono (P':=fun x=>(g+1<=x/\x≠b)/\x≠g/\¬ S3 n x) (fun x hx hP=>by simp only [S3];omega)).kept (fun x hP hl=>H.but.block x hl (fun h=>by rcases h with h|h;exact hP.2.2 h;exact hP.2.1 h))).mono (fun x _ hP=>hP.1)) hbb (by omega)
 replace H:=W2.comb H.tail (fun i hi h=>by rcases h with h|h;exact h;omega)
 clear W2 T B2 E2 A2 P0 hbb
 generalize hv0:Value.slice (some ⟨b,0,none⟩) 1 1=v0 at *
 go_loopw [5] (fun l wr=>∃ f a' o' r,Hid (St (S3 n) w wr ([(true,g,27,reA 0 noSet (.slice none 0 0) 0 0)]++env n s a' o' r))/\Hid (Rw wr (g+1) l f)/\Hid (SqI (altL br s) s R f a' o' o r)/\a'<=s.size/\Hid ((r=true->f.len<=a'+1)/\f.len<=s.size+2)) (fun _ wr=>muP s n wr)
 case atStart=>exact⟨Fo.nil.snoc t,a1,o1,r1,H,R0,hI0,ha1,⟨fun _=>by simp [Fo.snoc,Fo.len],by simp [Fo.snoc,Fo.len]⟩⟩
 case round =>
  clear H R0 hI0 ha1 hv0
  obtain⟨f,a',o',r,H1,R1,hI,ha',hf⟩:=hrel
  have H:=H1.out
  clear H1
  have hgl:=H.lti 0 rfl
  obtain⟨ra,rc,hv,-,-⟩:∃ x c,u5=.slice x f.len c/\True/\True:=by
   obtain⟨xs,ro,_⟩:=R1.out
   obtain⟨x,c,e,_,_⟩:=ZaR ro
   exact⟨x,c,e,trivial,trivial⟩
  subst hv
  generalize hv:Value.slice ra f.len rc=v at *
  have cA:=H.cell 1 0 rfl (v:=.int .i64 (a':Int)) rfl
  have cR:=H.cell 3 0 rfl (v:=.bool r) rfl
  have cS:=H.cell 4 0 rfl (v:=.string s) rfl
  by_cases hc:r=true/\bt s a'=124
  ·obtain⟨rfl,h124⟩:=hc
   have hlt:=ZbD (s:=s) (k:=a') (by omega)
   obtain⟨N,hN,hL,ho⟩:=hI.out.1 rfl
   subst ho
   obtain⟨m,rfl⟩:∃ m,N=m+1:=⟨N - 1,by omega⟩
   rw [altL,if_pos h124] at hL
   have P1:=Zaa (PP.out (a'+1) (by omega))
   have G1:=GP.out (a'+1) (by omega)
   generalize Zlp br s (a'+1)=rp at P1 G1 hL
   replace h124:=Zaa h124
   replace hL:=Zaa hL
   have mu1:=Zaa (Zjv (St.ev (M:=[_]) H))
   have hf1:=hf.out.1 rfl
   clear hI PP GP hf
   go_wp2_with fail
   refine (Zam s a' _ rfl).mono ?_
   rintro e w1 ⟨rfl,rfl⟩
   rw [h124.out]
   clear cA cR cS
   go_wp2_with (first|(with_reducible refine Zab 3 ?_;refine wl_st3b 1 H rfl rfl rfl ?_;clear H;intro w' H B1)|(with_reducible refine Zac 9 ?_;first|(refine Zbn 4 0 H rfl rfl rfl ?_))|(with_reducible refine Zac 3 ?_;first|(refine Zax 1 0 H rfl rfl rfl ?_))|(with_reducible refine Zac 4 ?_;first|(refine Za3 3 0 H rfl rfl rfl ?_))|(with_reducible refine Zac 183 ?_;first|(refine ZaH 5 0 H rfl rfl rfl ?_;simp only [brF,atF,piF,seF,alF])|(refine ZaH 6 0 H rfl rfl rfl ?_;simp only [brF,atF,piF,seF,alF])|(refine ZaH 7 0 H rfl rfl rfl ?_;simp only [brF,atF,piF,seF,alF])|(refine ZaH 8 0 H rfl rfl rfl ?_;simp only [brF,atF,piF,seF,alF])|(refine ZaH 9 0 H rfl rfl rfl ?_;simp only [brF,atF,piF,seF,alF])))
   replace H:St (S3 n) w w' ([(true,g,27,reA 0 noSet (.slice none 0 0) 0 0)]++env n s (a'+1) o' true):=H
   have R2:=Zaa (R1.out.kept (w':=w') (fun b hb hl=>B1.block b hl (fun h=>by omega)))
   have hsb:=B1.size
   refine (P1.out w' (ZdA hT H hn) (St.ev (M:=[_]) H)).mono ?_
   rintro e w3 ⟨x,t,a2,o2,r2,rfl,T,E3,B3,A3⟩
   have hE9:=E3.lt
   have R3:=Zaa (R2.out.kept (w':=w3) (fun b hb hl=>B3.block b hl (fun h=>by simp only [S3] at h;omega)))
   have hs3:=B3.size
   have hown:∀ k,v.ownBlock=some k->k<w'.heap.size:=fun k hk=>(R2.out.lt hk).2
   replace H:=St.closure (M:=[_]) H B3 (fun i _ h=>h) E3
   obtain⟨va,vn,vc,hx⟩:=T.val
   subst hx
   clear P1
   have facts:a2<=s.size/\((r2=true->(f.snoc t).len<=a2+1)/\(f.snoc t).len<=s.size+2)/\okN (.bool r2) * (s.size+2 - a2)<s.size+2 - a'/\SqI (altL br s) s R (f.snoc t) a2 o2 o' r2:=by
    cases rp with
    | error p =>
     obtain⟨rfl,rfl⟩:=A3
     refine⟨G1,⟨fun h=>(by cases h),by rw [Fo.len_snoc];omega⟩,by simp [okN];omega,fun h=>(by cases h),fun _=>hL.out.symm⟩
    | ok td =>
     obtain⟨t',d⟩:=td
     obtain⟨rfl,rfl,rfl,rfl⟩:=A3
     obtain⟨g1,g2,-⟩:=G1
     exact⟨g2,⟨fun _=>by rw [Fo.len_snoc];omega,by rw [Fo.len_snoc];omega⟩,by simp [okN];omega,fun _=>⟨m,by omega,hL.out,rfl⟩,fun h=>(by cases h)⟩
   obtain⟨k1,k2,k3,k4⟩:=facts
   replace k2:=Zaa k2
   replace k3:=Zaa k3
   replace k4:=Zaa k4
   go_wp2_with (first|(with_reducible refine Zlr ?_;refine Zls (L:=[_]++env n s a2 o2 r2) H R3.out T (fun _=>rfl) (fun _=>rfl) rfl hown (by omega) hs3 (by omega) (Zg1 rfl (by omega)) (by omega) ?_;clear H;intro u v2 w' H R4 hz))
   go_roundw
   case rel=>exact⟨f.snoc t,a2,o2,r2,H,R4,k4,k1,k2⟩
   case measure =>
    show muP s n _<muP s n _
    rw [Zjv (St.ev (M:=[_]) H),mu1.out]
    have:=k3.out;simpa [okN] using this
  ·have hend:r=true->R=.ok (f,a'):=fun hr=>by
    obtain⟨N,hN,hL,_⟩:=hI.out.1 hr
    obtain⟨m,rfl⟩:∃ m,N=m+1:=⟨N - 1,by omega⟩
    rw [<- hL,altL,if_neg (fun h=>hc ⟨hr,h⟩)]
   replace hend:=Zaa hend
   have hf2:=hf.out.2
   have TG:=Zaa (fun xs ro rk=>Zcg 3 f v wr (fun b=>g+1<=b) xs ro (fun b hb=>(R1.out.lt hb).1) rk)
   clear PP GP hf
   cases r with
   | false =>
    clear hc
    go_wp2_with fail
    obtain⟨xs,ro,rk⟩:=R1.out
    refine (TG.out xs (ZbR ro (Nat.zero_le _)) (rk.mono (fun b _ h=>h.1))).mono ?_
    rintro e w4 ⟨x,rfl,T4,b4⟩
    have W4:=H.call b4 (Nat.le_refl _)
    clear H TG ro rk
    have H:=St.rebaseE (M:=[_]) W4 (fun k=>k=g) (fun x hx=>by simp only [List.mem_cons,List.not_mem_nil,or_false] at hx;subst hx;rfl)
    obtain⟨va,vn,vc,hx⟩:=T4.val
    subst hx
    clear cA cR cS
    go_wp2_with (first|(with_reducible refine Zab 27 ?_;refine Zao 0 H rfl rfl rfl rfl ?_;clear H;intro w' H))
    refine bodyPost_ret (Zaf rfl _ _ _ _ rfl (ZaG (H.get 0 rfl))) rfl ?_
    refine⟨_,tog 3 f,a',o',_,rfl,?_,St.ev (M:=[_]) H,W4.but.trans H.but (fun i hi h=>by rcases h with h|h;exact h;omega),hI.out.agree 3 (fun h=>hend.out (by first|exact h|trivial))⟩
    exact (T4.kept (fun b hP hb=>H.but.block b hb (fun h=>by rcases h with h|h;simp only [S3] at h;omega;omega))).mono (fun b _ hP=>by omega)
   | true =>
    generalize hq:bt s a'=q at hc
    have n124:(q == 124)=false:=beq_eq_false_iff_ne.2 (fun h=>hc ⟨rfl,h⟩)
    replace hc:=Zaa hc
    replace hq:=Zaa hq
    go_wp2_with fail
    refine (Zam s a' _ rfl).mono ?_
    rintro e w1 ⟨rfl,rfl⟩
    rw [hq.out]
    go_wp2_with fail
    obtain⟨xs,ro,rk⟩:=R1.out
    refine (TG.out xs (ZbR ro (Nat.zero_le _)) (rk.mono (fun b _ h=>h.1))).mono ?_
    rintro e w4 ⟨x,rfl,T4,b4⟩
    have W4:=H.call b4 (Nat.le_refl _)
    clear H TG ro rk
    have H:=St.rebaseE (M:=[_]) W4 (fun k=>k=g) (fun x hx=>by simp only [List.mem_cons,List.not_mem_nil,or_false] at hx;subst hx;rfl)
    obtain⟨va,vn,vc,hx⟩:=T4.val
    subst hx
    clear cA cR cS
    go_wp2_with (first|(with_reducible refine Zab 27 ?_;refine Zao 0 H rfl rfl rfl rfl ?_;clear H;intro w' H))
    refine bodyPost_ret (Zaf rfl _ _ _ _ rfl (ZaG (H.get 0 rfl))) rfl ?_
    refine⟨_,tog 3 f,a',o',_,rfl,?_,St.ev (M:=[_]) H,W4.but.trans H.but (fun i hi h=>by rcases h with h|h;exact h;omega),hI.out.agree 3 (fun h=>hend.out (by first|exact h|trivial))⟩
    exact (T4.kept (fun b hP hb=>H.but.block b hb (fun h=>by rcases h with h|h;simp only [S3] at h;omega;omega))).mono (fun b _ hP=>by omega)
open Go.RowKit
theorem TrV.zeroV (w:World)(P:Nat->Prop):TrV w P (reV 0 noSet (.slice none 0 0) 0 0) (⟨0,noSet,0,0⟩,.nil):=⟨_,[],rfl,⟨rfl,.inl ⟨rfl,rfl⟩⟩,fun b hb=>(by cases hb),rfl⟩
def brE (s:ByteArray)(r:Out):Out:=match r with
 | .error p=>.error p
 | .ok (t,d)=>if bt s d=41 then .ok (t,d+1) else .error d
theorem brM_eq (s:ByteArray)(m a:Nat):brM s (m+1) a=if (opR s a).2=true then brE s (Zk7 (brM s m) s (opR s a).1) else .error (opR s a).1:=rfl
theorem br_zero (n:Nat)(s:ByteArray):BrOk n s 32 (brM s 0):=by
 intro w a hE hT hb
 show Calls _ _ _ _ (Post n s 32 w (.error a))
 have H:St (S3 n) w w (env n s a 32 true):=hE.st
 go_enter Tryz.func115,Tryz.ntmps115
 go_wp2_with (first|(with_reducible refine Zae 27 ?_;refine Zap H ?_;clear H;intro g w' H q1 q2)|(with_reducible refine Zac 9 ?_;first|(refine Zbn 4 0 H rfl rfl rfl ?_))|(with_reducible refine Zac 3 ?_;first|(refine Zax 1 0 H rfl rfl rfl ?_)|(refine Zax 2 0 H rfl rfl rfl ?_))|(with_reducible refine Zac 4 ?_;first|(refine Za3 3 0 H rfl rfl rfl ?_))|(with_reducible refine Zac 183 ?_;first|(refine ZaH 5 0 H rfl rfl rfl ?_;simp only [brF,atF,piF,seF,alF]))|(with_reducible refine Zab 3 ?_;first|(refine Zbj 1 H rfl rfl rfl ?_;clear H;intro w' H)|(refine Zbj 2 H rfl rfl rfl ?_;clear H;intro w' H))|(with_reducible refine Zab 4 ?_;refine Zb8 3 H rfl rfl rfl ?_;clear H;intro w' H)|(with_reducible refine Zac 27 ?_;refine Zas 0 H rfl rfl ?_)|(with_reducible refine Zab 27 ?_;refine Zao 0 H rfl rfl rfl rfl ?_;clear H;intro w' H))
 refine bodyPost_ret (Zaf rfl _ _ _ _ rfl (ZaG (H.get 0 rfl))) rfl ?_
 exact⟨_,(⟨0,noSet,0,0⟩,.nil),a,33,false,rfl,TrV.zeroV _ _,St.ev (M:=[_]) H,H.but,⟨rfl,rfl⟩⟩
theorem br_succ (n:Nat)(hn:0<n)(s:ByteArray)(hs:s.size<=256)(o:Int)(ho:0<=o/\o<=31)(m:Nat)(IH:BrOk n s (o+1) (brM s m)):BrOk n s o (brM s (m+1)):=by
 intro w a hE hT hb
 have H:St (S3 n) w w (env n s a o true):=hE.st
 have hlt:=ZbD (s:=s) (k:=a) (by omega)
 obtain⟨o1,o2⟩:=op_far s a hlt
 have hE8:=hE.lt
 rw [brM_eq]
 have PO:=Zaa (fun w=>Zh3 s a (by omega) w)
 have PA:=Zaa (fun w hT hE=>ZlO n hn s hs (o+1) (brM s m) IH (3 * m+1) (by omega) (ZeF s m) w hT (opR s a).1 o2 hE)
 have GA:=Zf0 (by omega) (ZeF s m) (opR s a).1 o2
 generalize Zk7 (brM s m) s (opR s a).1=rA at PA GA ⊢
 generalize opR s a=r0 at PO PA GA o1 o2 ⊢
 obtain⟨d,ok⟩:=r0
 simp only at PO PA GA o1 o2 ⊢
 replace IH:=Zaa IH
 replace hb:=Zaa hb
 obtain⟨ho1,ho2⟩:=ho
 have hw1:o+1<=32:=by omega
 cases ok with
 | false =>
  rw [if_neg (by simp)]
  go_enter Tryz.func115,Tryz.ntmps115
  go_wp2_with (first|(with_reducible refine Zae 27 ?_;refine Zap H ?_;clear H;intro g w' H q1 q2)|(with_reducible refine Zac 9 ?_;first|(refine Zbn 4 0 H rfl rfl rfl ?_))|(with_reducible refine Zac 3 ?_;first|(refine Zax 1 0 H rfl rfl rfl ?_)|(refine Zax 2 0 H rfl rfl rfl ?_))|(with_reducible refine Zac 4 ?_;first|(refine Za3 3 0 H rfl rfl rfl ?_))|(with_reducible refine Zac 183 ?_;first|(refine ZaH 5 0 H rfl rfl rfl ?_;simp only [brF,atF,piF,seF,alF]))|(with_reducible refine Zab 3 ?_;first|(refine Zbj 1 H rfl rfl rfl ?_;clear H;intro w' H)|(refine Zbj 2 H rfl rfl rfl ?_;clear H;intro w' H))|(with_reducible refine Zab 4 ?_;refine Zb8 3 H rfl rfl rfl ?_;clear H;intro w' H)|(with_reducible refine Zac 27 ?_;refine Zas 0 H rfl rfl ?_)|(with_reducible refine Zab 27 ?_;refine Zao 0 H rfl rfl rfl rfl ?_;clear H;intro w' H))
  refine (PO.out _).mono ?_
  rintro e w1 ⟨rfl,rfl⟩
  go_wp2_with (first|(with_reducible refine Zae 27 ?_;refine Zap H ?_;clear H;intro g w' H q1 q2)|(with_reducible refine Zac 9 ?_;first|(refine Zbn 4 0 H rfl rfl rfl ?_))|(with_reducible refine Zac 3 ?_;first|(refine Zax 1 0 H rfl rfl rfl ?_)|(refine Zax 2 0 H rfl rfl rfl ?_))|(with_reducible refine Zac 4 ?_;first|(refine Za3 3 0 H rfl rfl rfl ?_))|(with_reducible refine Zac 183 ?_;first|(refine ZaH 5 0 H rfl rfl rfl ?_;simp only [brF,atF,piF,seF,alF]))|(with_reducible refine Zab 3 ?_;first|(refine Zbj 1 H rfl rfl rfl ?_;clear H;intro w' H)|(refine Zbj 2 H rfl rfl rfl ?_;clear H;intro w' H))|(with_reducible refine Zab 4 ?_;refine Zb8 3 H rfl rfl rfl ?_;clear H;intro w' H)|(with_reducible refine Zac 27 ?_;refine Zas 0 H rfl rfl ?_)|(with_reducible refine Zab 27 ?_;refine Zao 0 H rfl rfl rfl rfl ?_;clear H;intro w' H))
  refine bodyPost_ret (Zaf rfl _ _ _ _ rfl (ZaG (H.get 0 rfl))) rfl ?_
  exact⟨_,(⟨0,noSet,0,0⟩,.nil),d,o+1,false,rfl,TrV.zeroV _ _,St.ev (M:=[_]) H,H.but,⟨rfl,rfl⟩⟩
 | true =>
  rw [if_pos rfl]
  generalize hres:brE s rA=res
  replace hres:=Zaa hres
  go_enter Tryz.func115,Tryz.ntmps115
  go_wp2_with (first|(with_reducible refine Zae 27 ?_;refine Zap H ?_;clear H;intro g w' H q1 q2)|(with_reducible refine Zac 9 ?_;first|(refine Zbn 4 0 H rfl rfl rfl ?_))|(with_reducible refine Zac 3 ?_;first|(refine Zax 1 0 H rfl rfl rfl ?_)|(refine Zax 2 0 H rfl rfl rfl ?_))|(with_reducible refine Zac 4 ?_;first|(refine Za3 3 0 H rfl rfl rfl ?_))|(with_reducible refine Zac 183 ?_;first|(refine ZaH 5 0 H rfl rfl rfl ?_;simp only [brF,atF,piF,seF,alF]))|(with_reducible refine Zab 3 ?_;first|(refine Zbj 1 H rfl rfl rfl ?_;clear H;intro w' H)|(refine Zbj 2 H rfl rfl rfl ?_;clear H;intro w' H))|(with_reducible refine Zab 4 ?_;refine Zb8 3 H rfl rfl rfl ?_;clear H;intro w' H)|(with_reducible refine Zac 27 ?_;refine Zas 0 H rfl rfl ?_)|(with_reducible refine Zab 27 ?_;refine Zao 0 H rfl rfl rfl rfl ?_;clear H;intro w' H))
  refine (PO.out _).mono ?_
  rintro e w1 ⟨rfl,rfl⟩
  go_wp2_with (first|(with_reducible refine Zae 27 ?_;refine Zap H ?_;clear H;intro g w' H q1 q2)|(with_reducible refine Zac 9 ?_;first|(refine Zbn 4 0 H rfl rfl rfl ?_))|(with_reducible refine Zac 3 ?_;first|(refine Zax 1 0 H rfl rfl rfl ?_)|(refine Zax 2 0 H rfl rfl rfl ?_))|(with_reducible refine Zac 4 ?_;first|(refine Za3 3 0 H rfl rfl rfl ?_))|(with_reducible refine Zac 183 ?_;first|(refine ZaH 5 0 H rfl rfl rfl ?_;simp only [brF,atF,piF,seF,alF]))|(with_reducible refine Zab 3 ?_;first|(refine Zbj 1 H rfl rfl rfl ?_;clear H;intro w' H)|(refine Zbj 2 H rfl rfl rfl ?_;clear H;intro w' H))|(with_reducible refine Zab 4 ?_;refine Zb8 3 H rfl rfl rfl ?_;clear H;intro w' H)|(with_reducible refine Zac 27 ?_;refine Zas 0 H rfl rfl ?_)|(with_reducible refine Zab 27 ?_;refine Zao 0 H rfl rfl rfl rfl ?_;clear H;intro w' H))
  have hgl:=H.lti 0 rfl
  have hs1:=H.but.size
  refine (PA.out _ (ZdA hT H hn) (St.ev (M:=[_]) H)).mono ?_
  rintro e w2 ⟨x,t,a2,o2',r2,rfl,T,E2,B2,A2⟩
  have W2:=St.closure (M:=[_]) H B2 (fun i _ h=>h) E2
  have hs2:=B2.size
  clear H PA
  have H:=St.rebaseE (M:=[_]) W2 (fun k=>k=g) (fun x hx=>by simp only [List.mem_cons,List.not_mem_nil,or_false] at hx;subst hx;rfl)
  obtain⟨va,vn,vc,hx⟩:=T.val
  subst hx
  have keep:Hid (∀ w',But (fun k=>S3 n k\/k=g) w2 w'->TrV w' (fun b=>w.heap.size<=b) (reV t.1.k t.1.s (.slice va vn vc) t.1.mn t.1.mx) t):=fun w' hb =>
   ((T.mono (P':=fun b=>w.heap.size<=b/\b≠g/\¬ S3 n b) (fun b hb hP=>by simp only [S3];omega)).kept (fun b hP hl=>hb.block b hl (fun h=>by rcases h with h|h;exact hP.2.2 h;exact hP.2.1 h))).mono (fun b _ hP=>hP.1)
  have fin:Hid (∀ w',But (fun k=>S3 n k\/k=g) w2 w'->But (S3 n) w w'):=fun w' hb=>W2.but.trans hb (fun i hi h=>by rcases h with h|h;exact h;omega)
  clear T B2 E2 W2
  cases rA with
  | error p =>
   obtain⟨rfl,rfl⟩:=A2
   subst hres
   go_wp2_with (first|(with_reducible refine Zae 27 ?_;refine Zap H ?_;clear H;intro g w' H q1 q2)|(with_reducible refine Zac 9 ?_;first|(refine Zbn 4 0 H rfl rfl rfl ?_))|(with_reducible refine Zac 3 ?_;first|(refine Zax 1 0 H rfl rfl rfl ?_)|(refine Zax 2 0 H rfl rfl rfl ?_))|(with_reducible refine Zac 4 ?_;first|(refine Za3 3 0 H rfl rfl rfl ?_))|(with_reducible refine Zac 183 ?_;first|(refine ZaH 5 0 H rfl rfl rfl ?_;simp only [brF,atF,piF,seF,alF]))|(with_reducible refine Zab 3 ?_;first|(refine Zbj 1 H rfl rfl rfl ?_;clear H;intro w' H)|(refine Zbj 2 H rfl rfl rfl ?_;clear H;intro w' H))|(with_reducible refine Zab 4 ?_;refine Zb8 3 H rfl rfl rfl ?_;clear H;intro w' H)|(with_reducible refine Zac 27 ?_;refine Zas 0 H rfl rfl ?_)|(with_reducible refine Zab 27 ?_;refine Zao 0 H rfl rfl rfl rfl ?_;clear H;intro w' H))
   refine bodyPost_ret (Zaf rfl _ _ _ _ rfl (ZaG (H.get 0 rfl))) rfl ?_
   exact⟨_,t,a2,o2',false,rfl,keep.out _ H.but,St.ev (M:=[_]) H,fin.out _ H.but,⟨rfl,rfl⟩⟩
  | ok td =>
   obtain⟨t',d2⟩:=td
   obtain⟨rfl,rfl,rfl,rfl⟩:=A2
   obtain⟨c1,c2,c3,c4,c5⟩:=GA
   replace c3:=Zaa c3
   replace c4:=Zaa c4
   replace c5:=Zaa c5
   simp only [brE] at hres
   by_cases h41:bt s a2=41
   ·rw [if_pos h41] at hres
    subst hres
    replace h41:=Zaa h41
    go_wp2_with (first|(with_reducible refine Zae 27 ?_;refine Zap H ?_;clear H;intro g w' H q1 q2)|(with_reducible refine Zac 9 ?_;first|(refine Zbn 4 0 H rfl rfl rfl ?_))|(with_reducible refine Zac 3 ?_;first|(refine Zax 1 0 H rfl rfl rfl ?_)|(refine Zax 2 0 H rfl rfl rfl ?_))|(with_reducible refine Zac 4 ?_;first|(refine Za3 3 0 H rfl rfl rfl ?_))|(with_reducible refine Zac 183 ?_;first|(refine ZaH 5 0 H rfl rfl rfl ?_;simp only [brF,atF,piF,seF,alF]))|(with_reducible refine Zab 3 ?_;first|(refine Zbj 1 H rfl rfl rfl ?_;clear H;intro w' H)|(refine Zbj 2 H rfl rfl rfl ?_;clear H;intro w' H))|(with_reducible refine Zab 4 ?_;refine Zb8 3 H rfl rfl rfl ?_;clear H;intro w' H)|(with_reducible refine Zac 27 ?_;refine Zas 0 H rfl rfl ?_)|(with_reducible refine Zab 27 ?_;refine Zao 0 H rfl rfl rfl rfl ?_;clear H;intro w' H;have cA:=H.cell 1 0 rfl (v:=.int .i64 (a2:Int)) rfl;have cS:=H.cell 4 0 rfl (v:=.string s) rfl))
    refine (Zam s a2 _ rfl).mono ?_
    rintro e w1 ⟨rfl,rfl⟩
    rw [h41.out]
    clear cA cS
    go_wp2_with (first|(with_reducible refine Zae 27 ?_;refine Zap H ?_;clear H;intro g w' H q1 q2)|(with_reducible refine Zac 9 ?_;first|(refine Zbn 4 0 H rfl rfl rfl ?_))|(with_reducible refine Zac 3 ?_;first|(refine Zax 1 0 H rfl rfl rfl ?_)|(refine Zax 2 0 H rfl rfl rfl ?_))|(with_reducible refine Zac 4 ?_;first|(refine Za3 3 0 H rfl rfl rfl ?_))|(with_reducible refine Zac 183 ?_;first|(refine ZaH 5 0 H rfl rfl rfl ?_;simp only [brF,atF,piF,seF,alF]))|(with_reducible refine Zab 3 ?_;first|(refine Zbj 1 H rfl rfl rfl ?_;clear H;intro w' H)|(refine Zbj 2 H rfl rfl rfl ?_;clear H;intro w' H))|(with_reducible refine Zab 4 ?_;refine Zb8 3 H rfl rfl rfl ?_;clear H;intro w' H)|(with_reducible refine Zac 27 ?_;refine Zas 0 H rfl rfl ?_)|(with_reducible refine Zab 27 ?_;refine Zao 0 H rfl rfl rfl rfl ?_;clear H;intro w' H))
    refine bodyPost_ret (Zaf rfl _ _ _ _ rfl (ZaG (H.get 0 rfl))) rfl ?_
    exact⟨_,t,a2+1,o,true,rfl,keep.out _ H.but,St.ev (M:=[_]) (a:=a2+1) (o:=o) (r:=true) H,fin.out _ H.but,⟨rfl,rfl,rfl,rfl⟩⟩
   ·rw [if_neg h41] at hres
    subst hres
    generalize hq:bt s a2=q at h41
    have n41:(q == 41)=false:=beq_eq_false_iff_ne.2 h41
    replace h41:=Zaa h41
    replace hq:=Zaa hq
    go_wp2_with (first|(with_reducible refine Zae 27 ?_;refine Zap H ?_;clear H;intro g w' H q1 q2)|(with_reducible refine Zac 9 ?_;first|(refine Zbn 4 0 H rfl rfl rfl ?_))|(with_reducible refine Zac 3 ?_;first|(refine Zax 1 0 H rfl rfl rfl ?_)|(refine Zax 2 0 H rfl rfl rfl ?_))|(with_reducible refine Zac 4 ?_;first|(refine Za3 3 0 H rfl rfl rfl ?_))|(with_reducible refine Zac 183 ?_;first|(refine ZaH 5 0 H rfl rfl rfl ?_;simp only [brF,atF,piF,seF,alF]))|(with_reducible refine Zab 3 ?_;first|(refine Zbj 1 H rfl rfl rfl ?_;clear H;intro w' H)|(refine Zbj 2 H rfl rfl rfl ?_;clear H;intro w' H))|(with_reducible refine Zab 4 ?_;refine Zb8 3 H rfl rfl rfl ?_;clear H;intro w' H)|(with_reducible refine Zac 27 ?_;refine Zas 0 H rfl rfl ?_)|(with_reducible refine Zab 27 ?_;refine Zao 0 H rfl rfl rfl rfl ?_;clear H;intro w' H;have cA:=H.cell 1 0 rfl (v:=.int .i64 (a2:Int)) rfl;have cS:=H.cell 4 0 rfl (v:=.string s) rfl))
    refine (Zam s a2 _ rfl).mono ?_
    rintro e w1 ⟨rfl,rfl⟩
    rw [hq.out]
    clear cA cS
    go_wp2_with (first|(with_reducible refine Zae 27 ?_;refine Zap H ?_;clear H;intro g w' H q1 q2)|(with_reducible refine Zac 9 ?_;first|(refine Zbn 4 0 H rfl rfl rfl ?_))|(with_reducible refine Zac 3 ?_;first|(refine Zax 1 0 H rfl rfl rfl ?_)|(refine Zax 2 0 H rfl rfl rfl ?_))|(with_reducible refine Zac 4 ?_;first|(refine Za3 3 0 H rfl rfl rfl ?_))|(with_reducible refine Zac 183 ?_;first|(refine ZaH 5 0 H rfl rfl rfl ?_;simp only [brF,atF,piF,seF,alF]))|(with_reducible refine Zab 3 ?_;first|(refine Zbj 1 H rfl rfl rfl ?_;clear H;intro w' H)|(refine Zbj 2 H rfl rfl rfl ?_;clear H;intro w' H))|(with_reducible refine Zab 4 ?_;refine Zb8 3 H rfl rfl rfl ?_;clear H;intro w' H)|(with_reducible refine Zac 27 ?_;refine Zas 0 H rfl rfl ?_)|(with_reducible refine Zab 27 ?_;refine Zao 0 H rfl rfl rfl rfl ?_;clear H;intro w' H))
    refine bodyPost_ret (Zaf rfl _ _ _ _ rfl (ZaG (H.get 0 rfl))) rfl ?_
    exact⟨_,t,a2,_,false,rfl,keep.out _ H.but,St.ev (M:=[_]) H,fin.out _ H.but,⟨rfl,rfl⟩⟩
theorem br_any (n:Nat)(hn:0<n)(s:ByteArray)(hs:s.size<=256):∀ m:Nat,m<=32->BrOk n s (32 - (m:Int)) (brM s m)
 | 0,_=>br_zero n s
 | m+1,h=>by
  have:=br_succ n hn s hs (32 - ((m+1:Nat):Int)) (by omega) m (by
   rw [show (32:Int) - ((m+1:Nat):Int)+1=32 - (m:Int) by omega]
   exact br_any n hn s hs m (by omega))
  exact this
end
end Go.Proofs.YtnffbmipllhjdaaGreatDoor
