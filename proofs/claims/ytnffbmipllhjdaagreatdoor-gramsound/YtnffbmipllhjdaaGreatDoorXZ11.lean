/- GramSound, part 11. -/
import Derived.Test.YtnffbmipllhjdaaGreatDoorXZ10
import Derived.Test.YtnffbmipllhjdaaGreatDoorXZ6
import Derived.Test.YtnffbmipllhjdaaGreatDoorXZ4
import Derived.Laws.StructEq
import Derived.Shelf.Small.Strs
import Derived.Lib.IndexAny
import Derived.Test.YtnffbmipllhjdaaGreatDoorXZ7
set_option linter.all false
set_option maxHeartbeats 8000000
namespace Go.Proofs.YtnffbmipllhjdaaGreatDoor
namespace G
open Go.RowKit
theorem run_snoc {w:World}{base m:Nat}{v:Value}{f:Fo}{t:Tr}{u:Value}(R:Rw w base v f)(T:TrV w (fun b=>m<=b) (reV t.1.k t.1.s u t.1.mn t.1.mx) t)(hm:∀ k,v.ownBlock=some k->k<m)(hbm:base<=m)(hmw:m<=w.heap.size)(hf:f.len<=1000000) :
  ∃ a2 n2 c2 w2,(Builtin.append_ #[25,25] 25 #[v,.slice (some ⟨w.heap.size,0,none⟩) 1 1]).run Tryz.prog (w.alloc (.cells (reA t.1.k t.1.s u t.1.mn t.1.mx) 27))=.ok (.slice a2 n2 c2) w2/\Rw w2 base (.slice a2 n2 c2) (f.snoc t)/\(w.alloc (.cells (reA t.1.k t.1.s u t.1.mn t.1.mx) 27)).grownBy w2 v.ownBlock:=by
 obtain⟨i0,hi,hz0,hz1,hz2⟩:=info28
 obtain⟨u',zs,hu',o,p,kd⟩:=T
 obtain rfl:u=u':=by
  simp only [reV,reA,Value.agg.injEq] at hu'
  have:=congrArg (fun a=>a[5]?) hu'
  simpa using this
 obtain⟨xs,ro,rk⟩:=R
 obtain⟨ua,uc,hu,_,_⟩:=ZaR o
 have hu1:u.oneCell'=true:=by rw [hu];rfl
 generalize hA:reA t.1.k t.1.s u t.1.mn t.1.mx=A at *
 have hAl:A.toList.length=8:=by rw [<- hA];rfl
 have hold:∀ b,b<w.heap.size->(w.alloc (.cells A 27)).heap[b]?=w.heap[b]?:=fun b hb=>Below.heap_alloc _ _ _ hb
 obtain⟨v2,w2,h1,h2,h3,_,h5⟩:=run_append_own_at (P:=Tryz.prog) (w.alloc (.cells A 27)) base 25 25 27 i0 (reV 0 noSet (.slice none 0 0) 0 0) 8 80 Tryz.underlying25 hi hz0 hz1 hz2 rfl (by decide) v f.len xs (Zbg ro (fun b hb=>hold b (Za9 ro hb).2)) ⟨w.heap.size,0,none⟩ 1 1 A.toList (by omega) (fun j v' hj=>by
  rw [Zav,Nat.zero_add,cell_of_row _ _ _ _ _ _ (heap_alloc_new w _)]
  simpa using hj) (by rw [<- hA];exact Zlq hu1) (by unfold maxLen;omega) (by omega) (by simp;omega)
 obtain⟨a2,c2,hv2,_,_⟩:=ZaR h2
 subst hv2
 refine⟨a2,f.len+1,c2,w2,h1,⟨xs++A.toList,by rw [Fo.len_snoc];exact h2,?_⟩,h3⟩
 have keep:∀ b,b<w.heap.size->v.ownBlock≠some b->w2.heap[b]?=w.heap[b]?:=fun b hb hn=>by
  rw [h3.block b (by simp;omega) (fun e=>hn e.symm),hold b hb]
 have ne:∀ b,b<w.heap.size->v.ownBlock≠some b->(Value.slice a2 (f.len+1) c2).ownBlock≠some b:=fun b hb hn e=>by
  rcases h5 with h|h
  ·exact hn (by rw [<- h,e])
  ·rw [h] at e
   have:w.heap.size+1=b:=by simpa using e
   omega
 have far:∀ b,m<=b->v.ownBlock≠some b:=fun b hb e=>by have:=hm b e;omega
 have step:∀ {ff:Fo} {ys:List Value} {PP:Nat->Prop},Kd w PP ff ys->(∀ b,PP b->base<=b/\v.ownBlock≠some b)->Kd w2 (fun b=>base<=b/\(Value.slice a2 (f.len+1) c2).ownBlock≠some b) ff ys:=fun hk hP =>
  ((hk.mono (P':=fun b=>(base<=b/\(Value.slice a2 (f.len+1) c2).ownBlock≠some b)/\v.ownBlock≠some b) (fun b hb hp=>⟨⟨(hP b hp).1,ne b hb (hP b hp).2⟩,(hP b hp).2⟩)).kept (w':=w2) (fun b hp hl=>keep b hl hp.2)).mono (fun b _ hp=>hp.1)
 have o2:=Zbg (w':=w2) o (fun b hb=>keep b (Za9 o hb).2 (far b (p b hb)))
 rw [<- hA]
 exact Kd.snoc o2 (fun b hb=>⟨by have:=p b hb;omega,ne b (Za9 o hb).2 (far b (p b hb))⟩) (step kd (fun b hb=>⟨by omega,far b hb⟩)) (step rk (fun b hb=>hb))
theorem st25 {S:Nat->Prop}{w0 w:World}{L:List Ent}(H:St S w0 w L)(i:Nat){g:Nat}{k:Int}{s:S4}{l:Value}{mn mx:Int}(h:L[i]?=some (true,g,27,reA k s l mn mx))(a:Option Addr)(n c:Nat):(storeVar 25 ⟨g,5,none⟩ (.slice a n c)).run Tryz.prog w=.ok () (w.setCell ⟨g,5,none⟩ (.slice a n c)):=by
 have hc:=H.cell i 5 h (v:=l) rfl
 have hf:=H.fz i 5 h
 have e:(storeCells ⟨g,5,none⟩ [.slice a n c]).run Tryz.prog w=.ok () (w.setCell ⟨g,5,none⟩ (.slice a n c)):=by simp [storeCells,go_sem,run_store Tryz.prog w _ (.slice a n c) _ rfl,stored,hc,hf]
 have e4:(Value.slice a n c).cells=#[.slice a n c]:=rfl
 unfold storeVar
 simp only [Sem.run_bind,one26,Result.andThen_ok,e4]
 simpa using e
theorem Zdd {w0:World}:∀ {d:Nat}{cs:List Value},ArgR w0 d cs->∃ (k:Int)(s:S4)(a:Option Addr)(n c:Nat)(mn mx:Int),cs=(reA k s (.slice a n c) mn mx).toList/\OkS s/\∀ d',d=d'+1->n<=maxLen/\(0<n->∃ b off,a=some ⟨b,off,none⟩/\b<w0.heap.size/\∀ i,i<n->∃ cs',cs'.length=8/\(∀ j u,cs'[j]?=some u->w0.cell? ⟨b,off+i * 8+j,none⟩=some u)/\ArgR w0 d' cs')
 | 0,cs,⟨k,s,a,n,c,mn,mx,e,ho⟩=>⟨k,s,a,n,c,mn,mx,e,ho,fun d' h=>by omega⟩
 | d+1,cs,⟨k,s,a,n,c,mn,mx,e,ho,h1,h2⟩=>⟨k,s,a,n,c,mn,mx,e,ho,fun d' h=>by
   obtain rfl:d=d':=by omega
   exact⟨h1,h2⟩⟩
theorem Zkc:∀ {f:Fo}{t:Tr},okF f->okT t->okF (f.snoc t)
 | .nil,t,_,h=>⟨h.1,h.2,trivial⟩
 | .cons n k r,t,⟨h1,h2,h3⟩,h=>⟨h1,h2,Zkc h3 h⟩
def CutP (w:World)(gb β:Nat)(e:Ending)(w':World):Prop:=∃ t u β',e=.returned (reV t.1.k t.1.s u t.1.mn t.1.mx)/\TrV w' (fun b=>w.heap.size<=b) (reV t.1.k t.1.s u t.1.mn t.1.mx) t/\w'.heap[gb]?=some (.cells #[.int .i64 ((β':Nat):Int)] 3 (0,0))/\β'+szT t=β/\But (fun k=>k=gb) w w'/\okT t
set_option maxRecDepth 100000 in
theorem Zkd (w0:World)(gb:Nat)(hgb:w0.heap.size<=gb)(d:Nat)(ih:∀ d',d=d'+1->d<=130->∀ (cs:List Value) (β:Nat)(w:World),ArgR w0 d' cs->β+1<=100->(∀ k,k<w0.heap.size->w.heap[k]?=w0.heap[k]?)->w.heap[gb]?=some (.cells #[.int .i64 ((β+1:Nat):Int)] 3 (0,0)) ->
  Calls Tryz.prog 33 #[.agg cs.toArray,.int .i64 (d':Int),.pointer (some ⟨gb,0,none⟩)] w (CutP w gb (β+1))):d<=130->∀ (cs:List Value) (β:Nat) (w:World),ArgR w0 d cs->β+1<=100->(∀ k,k<w0.heap.size->w.heap[k]?=w0.heap[k]?)->w.heap[gb]?=some (.cells #[.int .i64 ((β+1:Nat):Int)] 3 (0,0)) ->
  Calls Tryz.prog 33 #[.agg cs.toArray,.int .i64 (d:Int),.pointer (some ⟨gb,0,none⟩)] w (CutP w gb (β+1)):=by
 intro hd cs β w hA hβ hw0 hbx
 obtain⟨k,s,a,n,c,mn,mx,rfl,hoS,hkid⟩:=Zdd hA
 replace hoS:=Zaa hoS
 show Calls Tryz.prog 33 #[reV k s (.slice a n c) mn mx,.int .i64 (d:Int),.pointer (some ⟨gb,0,none⟩)] w _
 have lgb:gb<w.heap.size:=(Array.getElem?_eq_some_iff.1 hbx).1
 have H:St (fun k=>k=gb) w w [(true,gb,3,#[.int .i64 ((β+1:Nat):Int)])]:=⟨But.refl _ _,fun x hx=>by rw [List.mem_singleton.1 hx];exact hbx,fun x hx _ _=>by rw [List.mem_singleton.1 hx],by simp⟩
 obtain⟨b1,hb1⟩:∃ b1:Int,b1=((β+1:Nat):Int):=⟨_,rfl⟩
 rw [<- hb1] at H
 have hb2:b1 - 1=(β:Int):=by omega
 have hb3:IntKind.i64.wrap (β:Int)=(β:Int):=by rw [IntKind.wrap_i64];omega
 have hb4:wrap64 (β:Int)=(β:Int):=by unfold wrap64;omega
 have hβ2:β<=100:=by omega
 have hw0':=Zaa hw0
 replace hkid:=Zaa hkid
 replace ih:=Zaa ih
 replace hbx:=Zaa hbx
 replace hb1:=Zaa hb1
 clear hA hw0
 have m0:=trivial
 go_enter Tryz.func33,Tryz.ntmps33
 go_wp2_with (first|((with_reducible refine Zar 27 ?_);refine ZaM H rfl ?_;clear H;intro g3 w1 H q1 q2)|((with_reducible refine Zae 27 ?_);clear m0;refine Zap H ?_;clear H;intro g6 w1 H q5 q6)|((with_reducible refine Zae 27 ?_);refine Zap H ?_;clear H;intro g7 w2 H q3 q4)|((with_reducible refine Zac 3 ?_);refine Zax 2 0 H (v:=.int .i64 b1) rfl rfl rfl ?_)|((with_reducible refine Zab 3 ?_);refine Zbt 2 0 3 (v:=.int .i64 (β:Int)) H rfl rfl rfl (by simp) one3 rfl ?_;clear H;intro w3 H)|((with_reducible refine Zac 27 ?_);refine Zas 1 H rfl rfl ?_)|((with_reducible refine Zab 27 ?_);refine Zao 0 H rfl rfl rfl rfl ?_;clear H;intro w4 H)|((with_reducible refine Zab 25 ?_);refine Zll 0 H rfl rfl rfl ?_;clear H;intro w5 H))
 have HL:Hid (St (fun k=>k=gb) w w5 [(true,g7,27,reA k s (.slice none 0 0) mn mx),(true,g6,27,reA 0 noSet (.slice none 0 0) 0 0),(true,g3,27,reA k s (.slice a n c) mn mx),(true,gb,3,#[.int .i64 ((β:Nat):Int)])]):=H
 clear H
 have l7:=HL.out.lti 0 rfl
 have l6:=HL.out.lti 1 rfl
 have l3:=HL.out.lti 2 rfl
 have l5:=HL.out.but.size
 have hne:Hid (gb≠g7/\gb≠g6/\gb≠g3):=by
  refine⟨fun e=>?_,fun e=>?_,fun e=>?_⟩ <;> (have:=HL.out.nd;simp [e] at this)
 have fin:Hid (∀ (w7:World),St (fun k=>k=gb) w w7 ([(true,g7,27,reA k s (.slice none 0 0) mn mx),(true,g6,27,reA 0 noSet (.slice none 0 0) 0 0),(true,g3,27,reA k s (.slice a n c) mn mx),(true,gb,3,#[.int .i64 ((β:Nat):Int)])]++[])->True):=fun _ _=>trivial
 have fin2:Hid (∀ (w7:World) (f:Fo) (β':Nat) (va:Option Addr) (vn vc:Nat),w7.heap[gb]?=some (.cells #[.int .i64 ((β':Nat):Int)] 3 (0,0))->But (fun k=>k=gb) w w7->Rw w7 w5.heap.size (.slice va vn vc) f->β'+f.sz=β->okF f->CutP w gb (β+1) (.returned (reV k s (.slice va vn vc) mn mx)) w7):=fun w7 f β' va vn vc h1 h2 h3 h4 h5=>by
  obtain⟨xs,ro,rk⟩:=h3
  refine⟨(⟨k,s,mn,mx⟩,f),.slice va vn vc,β',rfl,⟨_,xs,rfl,ZbR ro (Nat.zero_le _),fun b hb=>?_,rk.mono (fun b _ hb=>?_)⟩,h1,?_,h2,hoS.out,h5⟩
  ·have:=Za9 ro hb;omega
  ·have:=hb.1;omega
  ·simp only [szT];omega
 clear fin
 go_loopw [8] (fun iv ws=>∃ (i:Nat) (f:Fo) (va:Option Addr) (vn vc β':Nat),iv=.int .i64 (i:Int)/\i<=100/\β'<=100/\Hid (St (fun k=>k=gb) w ws [(true,g7,27,reA k s (.slice va vn vc) mn mx),(true,g6,27,reA 0 noSet (.slice none 0 0) 0 0),(true,g3,27,reA k s (.slice a n c) mn mx),(true,gb,3,#[.int .i64 ((β':Nat):Int)])])/\Hid (Rw ws w5.heap.size (.slice va vn vc) f)/\Hid (β'+f.sz=β/\f.len=i)/\Hid (w5.heap.size<=ws.heap.size)/\Hid (okF f)) (fun iv _=>200 - (RowKit.intOf iv).toNat)
 case atStart=>exact⟨0,.nil,none,0,0,β,rfl,Nat.zero_le _,hβ2,HL,Rw.start _ _,⟨rfl,rfl⟩,Nat.le_refl _,trivial⟩
 case round =>
  obtain⟨i,f,va,vn,vc,β',rfl,hi100,hβ100,Hr,Rr,hsum,hsz,hof⟩:=hrel
  have c3:=Hr.out.cell 2 5 rfl (v:=.slice a n c) rfl
  have cB:=Hr.out.cell 3 0 rfl (v:=.int .i64 ((β':Nat):Int)) rfl
  have finr:Hid (∀ w7,St (fun k=>k=gb) w w7 [(true,g7,27,reA k s (.slice va vn vc) mn mx),(true,g6,27,reA k s (.slice va vn vc) mn mx),(true,g3,27,reA k s (.slice a n c) mn mx),(true,gb,3,#[.int .i64 ((β':Nat):Int)])]->Rw w7 w5.heap.size (.slice va vn vc) f->CutP w gb (β+1) (.returned (reV k s (.slice va vn vc) mn mx)) w7):=fun w7 H7 R7=>fin2.out w7 f β' va vn vc (H7.get 3 rfl) H7.but R7 hsum.out.1 hof.out
  have Rk:Hid (∀ ys,Rw (wr.setRow g6 ys) w5.heap.size (.slice va vn vc) f):=fun ys=>Rr.out.kept (fun b hb _=>setRow_other _ _ _ _ (by omega))
  by_cases hin:(i:Int)<(n:Int)
  case neg =>
   go_wp2_with (first|((with_reducible refine Zac 27 ?_);refine Zas 0 Hr.out rfl rfl ?_)|((with_reducible refine Zab 27 ?_);refine wpList_store_row rfl 27 _ _ rfl g6 _ rfl rfl 27 _ (Hr.out.get 1 rfl) Zfn rfl (by have h1:∀ k n,(Value.int k n).oneCell'=true:=fun _ _=>rfl;have h2:∀ a n c,(Value.slice a n c).oneCell'=true:=fun _ _ _=>rfl;simp [reA,h1,h2]) ?_))
   have H7:=Hr.out.setRow 1 rfl (reA k s (.slice va vn vc) mn mx)
   refine bodyPost_ret (Zaf rfl _ _ g6 _ rfl (ZaG (H7.get 1 rfl))) rfl ?_
   exact finr.out _ H7 (Rk.out _)
  by_cases hd0:d=0
  case pos =>
   have e0:(d:Int)=0:=by omega
   have e1:¬ ((0:Int)<(d:Int)):=by omega
   go_wp2_with (first|((with_reducible refine Zac 27 ?_);refine Zas 0 Hr.out rfl rfl ?_)|((with_reducible refine Zab 27 ?_);refine wpList_store_row rfl 27 _ _ rfl g6 _ rfl rfl 27 _ (Hr.out.get 1 rfl) Zfn rfl (by have h1:∀ k n,(Value.int k n).oneCell'=true:=fun _ _=>rfl;have h2:∀ a n c,(Value.slice a n c).oneCell'=true:=fun _ _ _=>rfl;simp [reA,h1,h2]) ?_))
   have H7:=Hr.out.setRow 1 rfl (reA k s (.slice va vn vc) mn mx)
   refine bodyPost_ret (Zaf rfl _ _ g6 _ rfl (ZaG (H7.get 1 rfl))) rfl ?_
   exact finr.out _ H7 (Rk.out _)
  have e1:(0:Int)<(d:Int):=by omega
  by_cases hb0:β'=0
  case pos =>
   have e2:¬ ((0:Int)<((β':Nat):Int)):=by omega
   go_wp2_with (first|((with_reducible refine Zac 27 ?_);refine Zas 0 Hr.out rfl rfl ?_)|((with_reducible refine Zab 27 ?_);refine wpList_store_row rfl 27 _ _ rfl g6 _ rfl rfl 27 _ (Hr.out.get 1 rfl) Zfn rfl (by have h1:∀ k n,(Value.int k n).oneCell'=true:=fun _ _=>rfl;have h2:∀ a n c,(Value.slice a n c).oneCell'=true:=fun _ _ _=>rfl;simp [reA,h1,h2]) ?_))
   have H7:=Hr.out.setRow 1 rfl (reA k s (.slice va vn vc) mn mx)
   refine bodyPost_ret (Zaf rfl _ _ g6 _ rfl (ZaG (H7.get 1 rfl))) rfl ?_
   exact finr.out _ H7 (Rk.out _)
  have e2:(0:Int)<((β':Nat):Int):=by omega
  obtain⟨d',rfl⟩:∃ d',d=d'+1:=⟨d - 1,by omega⟩
  obtain⟨γ,rfl⟩:∃ γ,β'=γ+1:=⟨β' - 1,by omega⟩
  obtain⟨hnm,hels⟩:=hkid.out d' rfl
  obtain⟨b,off,rfl,hbl,hel⟩:=hels (by omega)
  obtain⟨cs',hl8,hcell,hA'⟩:=hel i (by omega)
  obtain⟨k1,s1,a1,n1,cc1,mn1,mx1,rfl,_⟩:=Zdd hA'
  have hkeep:∀ kk,kk<w0.heap.size->wr.heap[kk]?=w0.heap[kk]?:=fun kk hkk=>(Hr.out.but.block kk (by omega) (by omega)).trans (hw0'.out kk hkk)
  have hld:(loadVar 27 ⟨b,off+i * 8,none⟩).run Tryz.prog wr.drew=.ok (reV k1 s1 (.slice a1 n1 cc1) mn1 mx1) wr.drew:=ZdT (fun j v hj=>by
   have h1:=hcell j v (by simpa using hj)
   exact (World.cell?_of_block (w:=w0) (w':=wr.drew) (a:=⟨b,off+i * 8+j,none⟩) (hkeep b hbl)).trans h1)
  have c7:=Hr.out.cell 0 5 rfl (v:=.slice va vn vc) rfl
  obtain⟨dd,hdd⟩:∃ dd:Int,dd=((d'+1:Nat):Int):=⟨_,rfl⟩
  rw [<- hdd] at e1
  simp only [<- hdd]
  have hw1:dd - 1=(d':Int):=by omega
  have hw2:IntKind.i64.wrap (d':Int)=(d':Int):=by rw [IntKind.wrap_i64];omega
  have hw3:wrap64 (d':Int)=(d':Int):=by unfold wrap64;omega
  have IH:=Zaa (ih.out d' rfl hd (reA k1 s1 (.slice a1 n1 cc1) mn1 mx1).toList γ wr.drew hA' (by omega) hkeep (Hr.out.get 3 rfl))
  have hiH:=Zaa hin
  replace hcell:=Zaa hcell
  replace hkeep:=Zaa hkeep
  replace hld:=Zaa hld
  replace c7:=Zaa c7
  replace hels:=Zaa hels
  replace hel:=Zaa hel
  replace hl8:=Zaa hl8
  clear ih hkid hnm finr Rk
  go_wp2_with fail
  refine reg33_7 wr g3 g7 gb b off i n c vn vc va dd (d':Int) k1 s1 (.slice a1 n1 cc1) mn1 mx1 c7.out c3 hld.out hin hw1 hw2 hw3 _ _ _ _ _ _ _ _ _ _ _ _ _ _ _ _ _ _ _ _ _ _ _ _ _ _ _ _ _ _ _ _ _ _ _ _ _ _ _ _ _ _ _ _ ?_
  refine IH.out.mono ?_
  rintro e w8 ⟨t4,u4,β4,rfl,T4,hb4',hs4,B4,ho4⟩
  have B4':But (fun k=>k=gb) wr w8:=(But.refl _ wr).drew.trans B4 (fun _ _ h=>h)
  have hsz8:=B4'.size
  have H8:St (fun k=>k=gb) w w8 [(true,g7,27,reA k s (.slice va vn vc) mn mx),(true,g6,27,reA 0 noSet (.slice none 0 0) 0 0),(true,g3,27,reA k s (.slice (some ⟨b,off,none⟩) n c) mn mx),(true,gb,3,#[.int .i64 ((β4:Nat):Int)])]:=Hr.out.callS B4' (fun _ _ h=>h) rfl (fun x hx=>by
   have hn:=hne.out
   rcases List.mem_cons.1 hx with rfl|hx
   ·exact .inl ⟨by simp,fun h=>hn.1 h.symm⟩
   rcases List.mem_cons.1 hx with rfl|hx
   ·exact .inl ⟨by simp,fun h=>hn.2.1 h.symm⟩
   rcases List.mem_cons.1 hx with rfl|hx
   ·exact .inl ⟨by simp,fun h=>hn.2.2 h.symm⟩
   rw [List.mem_singleton.1 hx]
   exact .inr hb4')
  have R8:Rw w8 w5.heap.size (.slice va vn vc) f:=Rr.out.kept (fun b hb hl=>B4'.block b hl (by omega))
  have hfl:f.len<=1000000:=by have:=hsum.out.2;omega
  obtain⟨a2,n2,c2,w9,happ,R9,G9⟩:=run_snoc (m:=wr.heap.size) R8 T4 (fun kk hkk=>(Rr.out.lt hkk).2) hsz.out hsz8 hfl
  have H9:=((H8.alloc 27 (reA t4.1.k t4.1.s u4 t4.1.mn t4.1.mx)).tail).grown G9 (fun kk hkk=>⟨fun x hx=>by
   have hk:=(R8.lt hkk).1
   have hx2:=HL.out.lti 3 rfl
   rcases List.mem_cons.1 hx with rfl|hx
   ·simp only;omega
   rcases List.mem_cons.1 hx with rfl|hx
   ·simp only;omega
   rcases List.mem_cons.1 hx with rfl|hx
   ·simp only;omega
   rw [List.mem_singleton.1 hx]
   simp only
   omega,fun hl=>by have:=(R8.lt hkk).1;omega⟩)
  have hst:=st25 H9 0 rfl a2 n2 c2
  have H10:Hid (St (fun k=>k=gb) w (w9.setCell ⟨g7,5,none⟩ (.slice a2 n2 c2)) [(true,g7,27,reA k s (.slice a2 n2 c2) mn mx),(true,g6,27,reA 0 noSet (.slice none 0 0) 0 0),(true,g3,27,reA k s (.slice (some ⟨b,off,none⟩) n c) mn mx),(true,gb,3,#[.int .i64 ((β4:Nat):Int)])]):=H9.setCell 0 rfl 5 (.slice a2 n2 c2)
  have R10:Hid (Rw (w9.setCell ⟨g7,5,none⟩ (.slice a2 n2 c2)) w5.heap.size (.slice a2 n2 c2) (f.snoc t4)):=R9.kept (fun b hb _=>Below.heap_setCell w9 ⟨g7,5,none⟩ _ b (by show b≠g7;omega))
  have hsum2:Hid (β4+(f.snoc t4).sz=β/\(f.snoc t4).len=i+1):=⟨by rw [Fo.sz_snoc];have:=hsum.out.1;omega,by rw [Fo.len_snoc,hsum.out.2]⟩
  have hsz10:Hid (w5.heap.size<=(w9.setCell ⟨g7,5,none⟩ (.slice a2 n2 c2)).heap.size):=by
   have h1:=G9.size
   have h2:=hsz.out
   have h3:(w9.setCell ⟨g7,5,none⟩ (.slice a2 n2 c2)).heap.size=w9.heap.size:=by simp [World.setCell]
   show w5.heap.size<=(w9.setCell ⟨g7,5,none⟩ (.slice a2 n2 c2)).heap.size
   rw [h3]
   simp at h1
   omega
  have hof2:Hid (okF (f.snoc t4)):=Zkc hof.out ho4
  clear ho4
  have hbd:Hid (i+1<=100/\β4<=100):=by
   have h1:=Zcr (f.snoc t4)
   have h2:=hsum2.out
   exact⟨by omega,by omega⟩
  refine⟨_,_,_,_,_,.slice a2 n2 c2,w9,_,rfl,H8.cell 0 5 rfl rfl,(H8.alloc 27 _).cell 1 5 rfl rfl,happ,hst,?_⟩
  generalize w9.setCell ⟨g7,5,none⟩ (.slice a2 n2 c2)=w10 at H10 R10 hsz10 hst
  clear hst happ H9 H8 R8 R9 G9 T4 hb4' B4 B4' IH hld c7 c3 cB
  go_wp2_with fail
  go_roundw
  case rel=>exact⟨i+1,f.snoc t4,a2,n2,c2,β4,by go_num,hbd.out.1,hbd.out.2,H10,R10,hsum2,hsz10,hof2⟩
  case measure=>simp [RowKit.intOf];omega
set_option maxRecDepth 100000 in
theorem cut_any (w0:World)(gb:Nat)(hgb:w0.heap.size<=gb):∀ (d:Nat),d<=130->∀ (cs:List Value) (β:Nat)(w:World),ArgR w0 d cs->β+1<=100->(∀ k,k<w0.heap.size->w.heap[k]?=w0.heap[k]?)->w.heap[gb]?=some (.cells #[.int .i64 ((β+1:Nat):Int)] 3 (0,0)) ->
  Calls Tryz.prog 33 #[.agg cs.toArray,.int .i64 (d:Int),.pointer (some ⟨gb,0,none⟩)] w (CutP w gb (β+1)):=by
 intro d
 induction d with
 | zero=>exact Zkd w0 gb hgb 0 (fun d' h=>by omega)
 | succ d ih=>exact Zkd w0 gb hgb (d+1) (fun d' h=>by
   obtain rfl:d=d':=by omega
   intro hd
   exact ih (by omega))
end G
section
open Go.RowKit Go.Shelf
attribute [local go_sem] Oper.semAt_some
def ZhW (L:List Ins)(i:Nat):Bool:=match L[i]? with
 | some q=>q.op == 3
 | none=>false
def accB (L:List Ins)(W:List Nat):Bool:=(ZiG W).any (ZhW L)
theorem accB_iff {L:List Ins}{W:List Nat}(hW:OkW W):accB L W=true↔accS L (snW W):=by
 unfold accB
 rw [List.any_eq_true]
 constructor
 ·rintro⟨i,hi,he⟩
  unfold ZhW at he
  cases hq:L[i]? with
  | none=>rw [hq] at he;cases he
  | some q=>rw [hq] at he;exact⟨i,q,(Zc6 hW i).1 hi,hq,by simpa using he⟩
 ·rintro⟨i,q,h1,h2,h3⟩
  exact⟨i,(Zc6 hW i).2 h1,by unfold ZhW;rw [h2];simpa using h3⟩
theorem Zk4 {w:World}{ad:Addr}{v:Value}(h:w.cell? ad=some v):(loadVar 124 ad).run Tryz.prog w=.ok v w:=by
 have ha:∀ w,(isAgg 124).run Tryz.prog w=.ok false w:=fun w=>by kernel_rfl
 simp [loadVar,ha,go_sem,h]
theorem ld4b {w:World}{ad:Addr}{v:Value}(h:w.cell? ad=some v):(loadVar 4 ad).run Tryz.prog w=.ok v w:=by
 have ha:∀ w,(isAgg 4).run Tryz.prog w=.ok false w:=fun w=>by kernel_rfl
 simp [loadVar,ha,go_sem,h]
theorem run_st4 {w:World}{g:Nat}{u:Value}{v:Bool}(h:w.heap[g]?=some (.cells #[u] 4 (0,0))):(storeVar 4 ⟨g,0,none⟩ (.bool v)).run Tryz.prog w=.ok () (w.setCell ⟨g,0,none⟩ (.bool v)):=by
 have hc:=Zal h 0 (v:=u) rfl
 have hf:=frozen_of_row w g 0 _ 4 h
 have e:(storeCells ⟨g,0,none⟩ [.bool v]).run Tryz.prog w=.ok () (w.setCell ⟨g,0,none⟩ (.bool v)):=by simp [storeCells,go_sem,stored,hc,hf]
 have o4:∀ w,(sizeOf 4).run Tryz.prog w=.ok 1 w:=fun w=>by kernel_rfl
 have e4:(Value.bool v).cells=#[.bool v]:=rfl
 unfold storeVar
 simp only [Sem.run_bind,o4,Result.andThen_ok,e4]
 simpa using e
section
variable {S:Nat->Prop}{w0:World}{L:List Ent}{F:Fence}{n:Nat}{w w':World}{ops:Array Oper}{rest:List Oper}{a:Act}{Q:Exit->Act->World->Prop}{dst:Option Nat}{x y:Operand}{ty:TypeId}{pos:String}{after:Array Edge}
theorem ZnH (hF:∀ f,F.fn f){g:Nat}{u:Value}{v:Bool}(hg:w.heap[g]?=some (.cells #[u] 4 (0,0)))(hx:a.eval x=.pointer (some ⟨g,0,none⟩))(hy:a.eval y=.bool v)(h:∀ w',w'.heap[g]?=some (.cells #[.bool v] 4 (0,0))->But (fun k=>k=g) w w'->wpListIn F n Tryz.prog ops Q rest a w'):wpListIn F n Tryz.prog ops Q (⟨none,.store 4 x y,ty,pos,after,none⟩::rest) a w:=by
 refine Za4 (w':=w.setCell ⟨g,0,none⟩ (.bool v)) hF (fun c=>nofun) ?_ (h _ ?_ ?_)
 ·unfold execOp
  simp only [hx,hy,Instr.storeAt,Instr.sureAddr,Sem.run_bind,Sem.run_pure,Result.andThen_ok,run_st4 hg]
 ·exact heap_setCell_same w g 0 _ 4 _ hg
 ·exact⟨rfl,rfl,rfl,by simp [World.setCell],fun k hk hn=>Below.heap_setCell w ⟨g,0,none⟩ _ k hn⟩
theorem ZhX (hF:∀ f,F.fn f)(H:St S w0 w L){ad:Addr}(hx:a.eval x=.pointer (some ad))(h:∀ g w',St S w0 w' ((true,g,124,#[.pointer (some ad)])::L)->w0.heap.size<=g->wpListIn F n Tryz.prog ops Q rest (a.put dst (.pointer (some ⟨g,0,none⟩))) w'):wpListIn F n Tryz.prog ops Q (⟨dst,.box 124 x,ty,pos,after,none⟩::rest) a w:=by
 have e:(execOp a.eval ⟨dst,.box 124 x,ty,pos,after,none⟩).run Tryz.prog w=.ok (.value (.pointer (some ⟨w.heap.size,0,none⟩))) (w.alloc (.cells #[.pointer (some ad)] 124)):=by
  unfold execOp
  simp only [hx]
  kernel_rfl
 exact ZaF hF (fun c=>nofun) e (h _ _ (H.alloc 124 _) H.but.size)
theorem Zk5 (hF:∀ f,F.fn f)(H:St S w0 w L)(h:∀ g w',St S w0 w' ((true,g,4,#[.bool false])::L)->w0.heap.size<=g->wpListIn F n Tryz.prog ops Q rest (a.put dst (.pointer (some ⟨g,0,none⟩))) w'):wpListIn F n Tryz.prog ops Q (⟨dst,.alloc 4,ty,pos,after,none⟩::rest) a w:=by
 have e:(execOp a.eval ⟨dst,.alloc 4,ty,pos,after,none⟩).run Tryz.prog w=.ok (.value (.pointer (some ⟨w.heap.size,0,none⟩))) (w.alloc (.cells #[.bool false] 4)):=by
  unfold execOp
  kernel_rfl
 exact ZaF hF (fun c=>nofun) e (h _ _ (H.alloc 4 _) H.but.size)
end
structure AcI (w0:World) (g1 g2:Nat) (v:Value) (e:Bool) (W:World):Prop where
 b1:W.heap[g1]?=some (.cells #[v] 124 (0,0))
 b2:W.heap[g2]?=some (.cells #[.bool e] 4 (0,0))
 bel:Below w0.heap.size w0 W
theorem AcI.own {w0:World}{g1 g2 B:Nat}{v:Value}{e:Bool}{W W':World}{row:Option Nat}(h:AcI w0 g1 g2 v e W)(hB:w0.heap.size<=B)(hg:W.grownBy W' row)(hr:∀ r,row=some r->B<=r/\∃ o:Obj,W.heap[r]?=some o/\o.isCells=false):AcI w0 g1 g2 v e W':=by
 have ne:∀ g xs t,W.heap[g]?=some (.cells xs t (0,0))->some g≠row:=fun g xs t h e=>by
  obtain⟨_,o,ho,hc⟩:=hr g e.symm
  rw [h] at ho
  cases ho
  cases hc
 refine⟨(hg.block g1 (Array.getElem?_eq_some_iff.1 h.b1).1 (ne _ _ _ h.b1)).trans h.b1,(hg.block g2 (Array.getElem?_eq_some_iff.1 h.b2).1 (ne _ _ _ h.b2)).trans h.b2,h.bel.grown hg h.bel.size (fun k e=>by have:=(hr k e).1;omega)⟩
set_option maxRecDepth 100000 in
theorem acc_in (n:Nat)(hn:3<=n)(g:Nat)(ad:Option Addr)(c:Nat)(L:List Ins)(W:List Nat)(hW:OkW W)(w:World)(hR:Rn w g ad L.length c W)(hL:HsI w (fun k=>k<w.heap.size) ad L)(hin:∀ i,inW W i=true->i<L.length)(hT:Tab w)(h0:0<L.length) :
  CallsIn Fence.wide n Tryz.prog 68 #[.pointer (some ⟨g,0,none⟩)] w fun e w'=>e=.returned (.bool (accB L W))/\Below w.heap.size w w':=by
 have H:=St.start Nope w
 have lg:=hR.lt
 unfold accB
 generalize hres:(ZiG W).any (ZhW L)=res
 replace hres:=Zaa hres
 replace hL:=Zaa hL
 replace hR:=Zaa hR
 replace hin:=Zaa hin
 replace hW:=Zaa hW
 replace hT:=Zaa hT
 refine callsIn_of_wp_marks Tryz.func68 rfl trivial ?_ rfl
 simp only [Tryz.ntmps68,List.size_toArray,List.length_cons,List.length_nil,Nat.reduceAdd,Nat.reduceSub,Array.replicate_succ,Array.replicate_zero,List.push_toArray,List.append_toArray,List.nil_append,List.cons_append]
 gi_wp2_with (first|((with_reducible refine Zbh 124 ?_);refine ZhX Zad H rfl ?_;clear H;intro g1 w1 H q1)|((with_reducible refine ZaO 4 ?_);refine Zk5 Zad H ?_;clear H;intro g2 w2 H q2;have c1:=H.cell 1 0 rfl (v:=.pointer (some ⟨g,0,none⟩)) rfl;have hb2:=Zaa H.below)|((with_reducible refine Zah 124 ?_);refine Zai 124 Zad rfl (Zk4 c1) ?_))
 have R2:Rn w2 g ad L.length c W:=hR.out.kept (hb2.out.block g lg)
 refine⟨trivial,fun h=>(by cases h),(callsIn_wide.2 (Zd3 g ad L.length c h0 w2 R2.l)).mono ?_⟩
 rintro e w3 ⟨rfl,rfl⟩
 gi_wp2_with (first|((with_reducible refine Zah 124 ?_);refine Zai 124 Zad rfl (Zk4 c1) ?_))
 have hl1:=H.lti 1 rfl
 have hl2:=H.lti 0 rfl
 refine⟨trivial,fun h=>(by cases h),(all_in _ _ _).mono ?_⟩
 rintro e w5 ⟨gB,rfl,hbB,B5,hgB⟩
 replace H:=H.call B5 (Nat.le_refl _)
 have hb5:=H.below
 have hs5:=hb5.size
 have hs35:=B5.size
 have h15:=H.get 1 rfl
 have h25:=H.get 0 rfl
 have R5:Rn w5 g ad L.length c W:=hR.out.kept (hb5.block g lg)
 have hst:=Zhx (Pr:=fun i=>i<L.length) 1 (fun _=>False) (n - 1) gB g #[.slice ad L.length c] 174 W hW.out w5 hbB R5 (hT.out.below hb5) (by decide) (fun h=>h) (fun i hi=>hin.out i ((Zc6 hW.out i).1 hi))
 have I0:AcI w g1 g2 (.pointer (some ⟨g,0,none⟩)) false w5:=⟨h15,h25,hb5⟩
 have hne:Hid (g1≠g2):=fun e=>by have:=H.nd;simp [e] at this
 clear H c1 R2
 gi_wp2
 refine wpIn_rangeFunc_ownH rfl (by omega) (gf:=169) (lb:=#[.pointer (some ⟨gB,0,none⟩)]) rfl (Zad 169) (enters_of Tryz.func169 (by kernel_rfl) rfl)
  hst (fun h k=>h.trans k) (fun Wd l o o' hl ho hc _=>⟨by simp [World.putObj],fun k hk hlt hX=>(grownBy_putObj' Wd l o').block k hlt (fun h=>by cases h;omega)⟩) (Below.refl _ w5) (fun _=>rfl)
  (fun pr Wd=>AcI w g1 g2 (.pointer (some ⟨g,0,none⟩)) false Wd/\∀ x ∈ pr,ZhW L x.1=false)
  (fun cc pr Wd=>cc=.ret/\AcI w g1 g2 (.pointer (some ⟨g,0,none⟩)) true Wd/\∃ x ∈ pr,ZhW L x.1=true)
  (fun pr Wd Wd' row hs hg hr=>⟨hs.1.own hs5 hg hr,hs.2⟩)
  (fun cc pr Wd Wd' row hs hg hr=>⟨hs.1,hs.2.1.own hs5 hg hr,hs.2.2⟩)
  ⟨I0,fun x hx=>(List.not_mem_nil hx).elim⟩
  (fun x a' Wd=>∃ u0 u4 u5 u6 u7 u8 u9 u10 u11 u12 u13 u14 u15 u16 u17 u18 u19 u20:Value,a'={ tmps:=#[u0,.pointer (some ⟨g1,0,none⟩),.pointer (some ⟨g2,0,none⟩),.int .i64 (x.1:Int),u4,u5,u6,u7,u8,u9,u10,u11,u12,u13,u14,u15,u16,u17,u18,u19,u20],defers:=[] })
  (fun x a' _ Wd Wd' row hs hg hr=>hs) ?assign ?body ?done ?stop
 case assign =>
  intro l pr x Wd K hi hK
  simp only [encN,List.zip_toArray,List.zip_cons_cons,List.zip_nil_left,List.zip_nil_right,List.foldl_toArray,List.foldl_cons,List.foldl_nil,List.setIfInBounds_toArray,List.set_cons_zero,List.set_cons_succ]
  replace hK:=Zaa hK
  replace hi:=Zaa hi
  gi_wp2
  exact hK.out _ Wd ⟨Nat.le_refl _,fun _ _ _ h _=>h⟩ (KO.refl _ _ _) hi.out ⟨_,_,_,_,_,_,_,_,_,_,_,_,_,_,_,_,_,_,rfl⟩
 case body =>
  rintro l pr ⟨i,hil⟩ a' Wd hl ⟨r,hr⟩ ⟨hi,hall⟩ ⟨u0,u4,u5,u6,u7,u8,u9,u10,u11,u12,u13,u14,u15,u16,u17,u18,u19,u20,rfl⟩ hlt
  obtain⟨q,hq⟩:∃ q,L[i]?=some q:=⟨_,List.getElem?_eq_getElem hil⟩
  have c1:=Zal hi.b1 0 (v:=.pointer (some ⟨g,0,none⟩)) rfl
  have Rd:Rn Wd g ad L.length c W:=hR.out.kept (hi.bel.block g lg)
  have cl:=Rd.l
  obtain⟨bb,off,cur,tt,fr,rfl,hbl,hcb,hcc⟩:∃ b off cur t fr,ad=some ⟨b,off,none⟩/\b<w.heap.size/\w.heap[b]?=some (.cells cur t fr)/\∀ k i,L[k]?=some i->∀ j u,(Zcf i)[j]?=some u->cur[off+k * 7+j]?=some u:=by
   rcases hL.out with h|h
   ·rw [h] at hq;simp at hq
   ·exact h
  have co:Wd.cell? ⟨bb,off+i * 7,none⟩=some (.int .i64 q.op):=by
   rw [cell_of_row Wd bb _ _ tt fr ((hi.bel.block bb hbl).trans hcb)]
   exact hcc i q hq 0 _ rfl
  have he:ZhW L i=(q.op == 3):=by unfold ZhW;rw [hq]
  have i1:(i:Int)<(L.length:Int):=by omega
  have hb2:=hi.b2
  have hs9:=hi.bel.size
  have hl9:=(Array.getElem?_eq_some_iff.1 hi.b1).1
  have hl92:=(Array.getElem?_eq_some_iff.1 hi.b2).1
  replace hall:=Zaa hall
  have hiH:=Zaa hi
  replace hr:=Zaa hr
  replace hq:=Zaa hq
  replace hcb:=Zaa hcb
  replace hcc:=Zaa hcc
  replace Rd:=Zaa Rd
  replace hb2:=Zaa hb2
  clear hi
  by_cases hop:q.op=3
  ·have i2:(q.op == 3)=true:=by simpa using hop
   rw [i2] at he
   rw [hop] at co
   replace he:=Zaa he
   clear i2 hop
   gi_wp2_with (first|((with_reducible refine Zah 124 ?_);refine Zai 124 (Zan l) rfl (Zk4 c1) ?_)|((with_reducible refine Zah 72 ?_);refine Zai 72 (Zan l) rfl (ld29 cl) ?_)|((with_reducible refine Zah 3 ?_);refine Zai 3 (Zan l) rfl (ld3 co) ?_)|((with_reducible refine Zay 4 ?_);refine ZnH (Zan l) hb2.out rfl rfl ?_;intro w7 hn7 B7;replace hn7:=Zaa hn7;replace B7:=Zaa B7))
   refine⟨Za7 (by exact B7.out) (fun k h=>.inl (by omega)),rfl,⟨(B7.out.block g1 hl9 hne.out).trans hiH.out.b1,hn7.out,hiH.out.bel.trans (B7.out.below hs9 (fun k h=>by omega))⟩,⟨i,hil⟩,by simp,he.out⟩
  ·have i2:(q.op == 3)=false:=by simpa using hop
   rw [i2] at he
   replace he:=Zaa he
   replace hop:=Zaa hop
   gi_wp2_with (first|((with_reducible refine Zah 124 ?_);refine Zai 124 (Zan l) rfl (Zk4 c1) ?_)|((with_reducible refine Zah 72 ?_);refine Zai 72 (Zan l) rfl (ld29 cl) ?_)|((with_reducible refine Zah 3 ?_);refine Zai 3 (Zan l) rfl (ld3 co) ?_))
   refine⟨⟨Nat.le_refl _,fun _ _ _ h _=>h⟩,KO.refl _ _ _,hiH.out,fun y hy=>?_⟩
   rcases List.mem_append.1 hy with h|h
   ·exact hall.out y h
   ·rw [List.mem_singleton.1 h];exact he.out
 case done =>
  rintro D xs Wd hD hS ⟨hI,hall⟩ hK
  have hr:=Zaa hI.b2
  have hbe:=Zaa hI.bel
  replace hK:=Zaa hK
  have hall2:res=false:=by
   rw [<- hres.out,<- hS]
   rw [List.any_eq_false]
   intro i hi
   obtain⟨x,hx,rfl⟩:=List.mem_map.1 hi
   rw [hall x hx]
   simp
  have hl92:=(Array.getElem?_eq_some_iff.1 hI.b2).1
  clear hI hall hS
  gi_wp2_with (first|((with_reducible refine Zay 4 ?_);refine ZnH Zad hr.out rfl rfl ?_;intro w7 hn7 B7;replace hn7:=Zaa hn7;replace B7:=Zaa B7))
  have hlD:=(Array.getElem?_eq_some_iff.1 hK.out).1
  have hK7:w7.heap[D]?=some (.deferred (some [])):=(B7.out.block D hlD (fun e=>by omega)).trans hK.out
  have B77:=grownBy_putObj' w7 D (.deferred none)
  have hn9:(w7.putObj D (.deferred none)).heap[g2]?=some (.cells #[.bool false] 4 (0,0)):=(B77.block g2 (by have:=B7.out.size;omega) (fun e=>by cases e;omega)).trans hn7.out
  refine⟨by simp,.inl ⟨_,_,rfl,run_takeDeferred hK7,?_⟩⟩
  refine⟨_,Zaf rfl _ _ g2 (.bool false) rfl (ld4b (Zal hn9 0 rfl)),?_,?_⟩
  ·rw [hall2]
  ·exact (hbe.out.trans (B7.out.below (by have:=hbe.out.size;omega) (fun k e=>by omega))).grown B77 (by have:=hbe.out.size;have:=B7.out.size;omega) (fun k e=>by cases e;omega)
 case stop =>
  rintro D cc pr Wd hD hpre ⟨rfl,hI,x,hx,hbad⟩ hK
  have hall2:res=true:=by
   rw [<- hres.out,List.any_eq_true]
   exact⟨x.1,hpre.subset (List.mem_map.2 ⟨x,hx,rfl⟩),hbad⟩
  have hl92:=(Array.getElem?_eq_some_iff.1 hI.b2).1
  have hIH:=Zaa hI
  replace hK:=Zaa hK
  clear hI
  gi_wp2
  have B77:=grownBy_putObj' Wd D (.deferred none)
  have hn9:(Wd.putObj D (.deferred none)).heap[g2]?=some (.cells #[.bool true] 4 (0,0)):=(B77.block g2 hl92 (fun e=>by cases e;omega)).trans hIH.out.b2
  refine⟨by simp,.inl ⟨_,_,rfl,run_takeDeferred hK.out,?_⟩⟩
  refine⟨_,Zaf rfl _ _ g2 (.bool true) rfl (ld4b (Zal hn9 0 rfl)),?_,?_⟩
  ·rw [hall2]
  ·exact hIH.out.bel.grown B77 hIH.out.bel.size (fun k e=>by cases e;omega)
end
section
open Go.RowKit Go.Shelf
attribute [local go_sem] Oper.semAt_some
def ZnI (xs:Array Value):Nat->List Value->Array Value
 | _,[]=>xs
 | o,v::r=>ZnI (xs.setIfInBounds o v) (o+1) r
theorem ZhY:∀ (vs cs p q:List Value),cs.length=vs.length->ZnI (p++cs++q).toArray p.length vs=(p++vs++q).toArray
 | [],cs,p,q,h=>by
  have:cs=[]:=List.eq_nil_of_length_eq_zero h
  subst this;rfl
 | v::r,[],p,q,h=>by simp at h
 | v::r,c::cs,p,q,h=>by
  have e:(p++c::cs++q).toArray.setIfInBounds p.length v=((p++[v])++cs++q).toArray:=by
   apply Array.ext'
   simp
  have:=ZhY r cs (p++[v]) q (by simpa using h)
  show ZnI ((p++c::cs++q).toArray.setIfInBounds p.length v) (p.length+1) r=_
  rw [e]
  simpa using this
section
variable {S:Nat->Prop}{w0 w:World}{L:List Ent}
theorem St.setCellsB {g:Nat}{t:TypeId}(i:Nat):∀ (vs:List Value)(o:Nat)(w:World)(L:List Ent)(xs:Array Value),St S w0 w L->L[i]?=some (true,g,t,xs)->St S w0 (w.setCells g o vs) (L.set i (true,g,t,ZnI xs o vs))
 | [],o,w,L,xs,H,h=>by
  have hl:=(List.getElem?_eq_some_iff.1 h).1
  have he:=(List.getElem?_eq_some_iff.1 h).2
  have:L.set i (true,g,t,xs)=L:=by rw [<- he];simp
  show St S w0 w (L.set i (true,g,t,xs))
  rw [this];exact H
 | v::r,o,w,L,xs,H,h=>by
  have hl:=(List.getElem?_eq_some_iff.1 h).1
  have h2:=H.setRow i h (xs.setIfInBounds o v)
  rw [<- setCell_eq_setRow w g o xs t (0,0) v (H.get i h)] at h2
  have h3:=St.setCellsB (g:=g) (t:=t) i r (o+1) _ _ (xs.setIfInBounds o v) h2 (show (L.set i (true,g,t,xs.setIfInBounds o v))[i]?=some (true,g,t,xs.setIfInBounds o v) by simp [hl])
  rw [List.set_set] at h3
  exact h3
end
set_option maxRecDepth 100000 in
theorem reg32_4 (n0:Nat)(ds:List Deferred)(w:World)(gR g b m c:Nat)(ad:Option Addr)(c1:w.cell? ⟨gR,0,none⟩=some (.pointer (some ⟨g,0,none⟩)))(cl:w.cell? ⟨g,0,none⟩=some (.slice ad m c))
  (u0 u3 u4 u5 u6 u7 u8 u9 u10 u11 u12 u13 u14 u15 u16 u17 u18 u19 u20 u21 u22 u23 u24 u25 u26 u27 u28 u29 u30 u31 u32:Value) (Q:Exit->Act->World->Prop)
  (h:∀ gA gL gb w',w'.heap[gA]?=some (.cells #[.pointer (some ⟨g,1,none⟩)] 176 (0,0))->w'.heap[gL]?=some (.cells #[.slice ad m c] 72 (0,0))->w'.heap[gb]?=some (.cells #[.int .u8 (b:Int)] 5 (0,0))->Below w.heap.size w w'->w.heap.size<=gA->w.heap.size<=gL->w.heap.size<=gb->Q .normal { tmps:=(List.toArray ((u0::.int .u8 (b:Int)::.pointer (some ⟨gR,0,none⟩)::u3::u4::u5::u6::u7::u8::u9::.pointer (some ⟨g,0,none⟩)::.pointer (some ⟨g,0,none⟩)::.pointer (some ⟨g,0,none⟩)::.slice ad m c::.pointer (some ⟨g,0,none⟩)::.pointer (some ⟨g,0,none⟩)::.pointer (some ⟨g,1,none⟩)::.int .u8 (b:Int)::.func (.func 167) #[] #[.pointer (some ⟨gA,0,none⟩),.pointer (some ⟨gL,0,none⟩),.pointer (some ⟨gb,0,none⟩)]::u19::u20::u21::u22::u23::u24::u25::u26::u27::u28::u29::u30::u31::u32::[]):List Value)),defers:=ds } w') :
  (Code.region 4 #[⟨some 10,.load 124 (.tmp 2),124,"sim.go:80",#[],none⟩,⟨some 11,.nilCheck (.tmp 10),0,"sim.go:80",#[⟨0,.data⟩],none⟩,⟨some 12,.fieldAddr 174 (.tmp 11) 0,0,"sim.go:80",#[⟨1,.data⟩],none⟩,⟨some 13,.load 72 (.tmp 12),72,"sim.go:80",#[⟨2,.data⟩],none⟩,⟨some 14,.load 124 (.tmp 2),124,"sim.go:80",#[],none⟩,⟨some 15,.nilCheck (.tmp 14),0,"sim.go:80",#[⟨4,.data⟩],none⟩,⟨some 16,.fieldAddr 174 (.tmp 15) 1,0,"sim.go:80",#[⟨5,.data⟩],none⟩,⟨some 17,.move (.tmp 1),5,"sim.go:80",#[],none⟩,⟨some 18,.call { callee:=.value (.func 112),args:=#[.tmp 13,.tmp 16,.tmp 17],argTypes:=#[72,176,5] },178,"sim.go:80",#[⟨3,.data⟩,⟨6,.data⟩,⟨7,.data⟩],none⟩] true).wpIn Fence.wide n0 Tryz.prog Q { tmps:=(List.toArray ((u0::.int .u8 (b:Int)::.pointer (some ⟨gR,0,none⟩)::u3::u4::u5::u6::u7::u8::u9::u10::u11::u12::u13::u14::u15::u16::u17::u18::u19::u20::u21::u22::u23::u24::u25::u26::u27::u28::u29::u30::u31::u32::[]):List Value)),defers:=ds } w:=by
 have hD:Below w.heap.size w w.drew:=(Below.refl _ w).drew
 have c1d:w.drew.cell? ⟨gR,0,none⟩=some (.pointer (some ⟨g,0,none⟩)):=c1
 have cld:w.drew.cell? ⟨g,0,none⟩=some (.slice ad m c):=cl
 replace h:=Zaa h
 refine Code.wpIn_mono NoPanic.imp ?_
 refine wpIn_region_any (by kernel_rfl) ?_
 change wpAnyIn _ _ _ _ _ _ _ _ _ (World.drew w)
 refine wpAnyIn_take (i:=7) (oi:=⟨some 17,.move (.tmp 1),5,"sim.go:80",#[],none⟩) (v:=?_) rfl rfl (by kernel_rfl) (by kernel_rfl) (by kernel_rfl) (fun _ _ _ h=>h) ⟨Or.inl ⟨by rfl,?_⟩,fun _=>rfl⟩ ?_
 rotate_left
 ·intro w'
  go_simp
  try with_reducible rfl
 try simp only [Act.put,PuA]
 refine wpAnyIn_ready (rs:=[0,4]) (by kernel_rfl) (by simp) ?_
 refine (AllReadyIn.cons (o:=⟨some 10,.load 124 (.tmp 2),124,"sim.go:80",#[],none⟩) rfl (fun K0 hK0=>?_) (AllReadyIn.cons (o:=⟨some 14,.load 124 (.tmp 2),124,"sim.go:80",#[],none⟩) rfl (fun K4 hK4=>?_) AllReadyIn.nil))
 ·refine ZaJ 124 Zad rfl (by rfl) rfl (Zk4 c1d) (hK0 _ _ ?_)
  clear hK0 K0
  try simp only [Act.put,PuA]
  refine wpAnyIn_take (i:=1) (oi:=⟨some 11,.nilCheck (.tmp 10),0,"sim.go:80",#[⟨0,.data⟩],none⟩) (v:=?_) rfl rfl (by kernel_rfl) (by kernel_rfl) (by kernel_rfl) (fun _ _ _ h=>h) ⟨Or.inl ⟨by rfl,?_⟩,fun _=>rfl⟩ ?_
  rotate_left
  ·intro w'
   go_simp
   try with_reducible rfl
  try simp only [Act.put,PuA]
  refine wpAnyIn_take (i:=2) (oi:=⟨some 12,.fieldAddr 174 (.tmp 11) 0,0,"sim.go:80",#[⟨1,.data⟩],none⟩) (v:=?_) rfl rfl (by kernel_rfl) (by kernel_rfl) (by kernel_rfl) (fun _ _ _ h=>h) ⟨Or.inl ⟨by rfl,?_⟩,fun _=>rfl⟩ ?_
  rotate_left
  ·intro w'
   go_simp
   try with_reducible rfl
  try simp only [Act.put,PuA]
  refine wpAnyIn_ready (rs:=[3,4]) (by kernel_rfl) (by simp) ?_
  refine (AllReadyIn.cons (o:=⟨some 13,.load 72 (.tmp 12),72,"sim.go:80",#[⟨2,.data⟩],none⟩) rfl (fun K3 hK3=>?_) (AllReadyIn.cons (o:=⟨some 14,.load 124 (.tmp 2),124,"sim.go:80",#[],none⟩) rfl (fun K4 hK4=>?_) AllReadyIn.nil))
  ·refine ZaJ 72 Zad rfl (by rfl) rfl (ld29 cld) (hK3 _ _ ?_)
   clear hK3 K3
   try simp only [Act.put,PuA]
   refine wpAnyIn_ready (rs:=[4]) (by kernel_rfl) (by simp) ?_
   refine (AllReadyIn.cons (o:=⟨some 14,.load 124 (.tmp 2),124,"sim.go:80",#[],none⟩) rfl (fun K4 hK4=>?_) AllReadyIn.nil)
   refine ZaJ 124 Zad rfl (by rfl) rfl (Zk4 c1d) (hK4 _ _ ?_)
   clear hK4 K4
   try simp only [Act.put,PuA]
   refine wpAnyIn_take (i:=5) (oi:=⟨some 15,.nilCheck (.tmp 14),0,"sim.go:80",#[⟨4,.data⟩],none⟩) (v:=?_) rfl rfl (by kernel_rfl) (by kernel_rfl) (by kernel_rfl) (fun _ _ _ h=>h) ⟨Or.inl ⟨by rfl,?_⟩,fun _=>rfl⟩ ?_
   rotate_left
   ·intro w'
    go_simp
    try with_reducible rfl
   try simp only [Act.put,PuA]
   refine wpAnyIn_take (i:=6) (oi:=⟨some 16,.fieldAddr 174 (.tmp 15) 1,0,"sim.go:80",#[⟨5,.data⟩],none⟩) (v:=?_) rfl rfl (by kernel_rfl) (by kernel_rfl) (by kernel_rfl) (fun _ _ _ h=>h) ⟨Or.inl ⟨by rfl,?_⟩,fun _=>rfl⟩ ?_
   rotate_left
   ·intro w'
    go_simp
    try with_reducible rfl
   try simp only [Act.put,PuA]
   refine wpAnyIn_ready (rs:=[8]) (by kernel_rfl) (by simp) ?_
   refine (AllReadyIn.cons (o:=⟨some 18,.call { callee:=.value (.func 112),args:=#[.tmp 13,.tmp 16,.tmp 17],argTypes:=#[72,176,5] },178,"sim.go:80",#[⟨3,.data⟩,⟨6,.data⟩,⟨7,.data⟩],none⟩) rfl (fun K8 hK8=>?_) AllReadyIn.nil)
   go_simp
   refine⟨trivial,fun h=>(by cases h),(ZmJ _ ad m c ⟨g,1,none⟩ b _).mono ?_⟩
   rintro e w4 ⟨gA,gL,gb,rfl,f1,f2,f3,B4,n1,n2,n3⟩
   replace B4:Below w.heap.size w.drew w4:=B4
   refine hK8 _ _ ?_
   clear hK8 K8
   try simp only [Act.put,PuA]
   refine wpAnyIn_done (by kernel_rfl) ?_ _
   refine NoPanic.normal ?_
   exact h.out _ _ _ _ f1 f2 f3 (hD.trans B4) n1 n2 n3
  ·refine ZaJ 124 Zad rfl (by rfl) rfl (Zk4 c1d) (hK4 _ _ ?_)
   clear hK4 K4
   try simp only [Act.put,PuA]
   refine wpAnyIn_take (i:=5) (oi:=⟨some 15,.nilCheck (.tmp 14),0,"sim.go:80",#[⟨4,.data⟩],none⟩) (v:=?_) rfl rfl (by kernel_rfl) (by kernel_rfl) (by kernel_rfl) (fun _ _ _ h=>h) ⟨Or.inl ⟨by rfl,?_⟩,fun _=>rfl⟩ ?_
   rotate_left
   ·intro w'
    go_simp
    try with_reducible rfl
   try simp only [Act.put,PuA]
   refine wpAnyIn_take (i:=6) (oi:=⟨some 16,.fieldAddr 174 (.tmp 15) 1,0,"sim.go:80",#[⟨5,.data⟩],none⟩) (v:=?_) rfl rfl (by kernel_rfl) (by kernel_rfl) (by kernel_rfl) (fun _ _ _ h=>h) ⟨Or.inl ⟨by rfl,?_⟩,fun _=>rfl⟩ ?_
   rotate_left
   ·intro w'
    go_simp
    try with_reducible rfl
   try simp only [Act.put,PuA]
   refine wpAnyIn_ready (rs:=[3]) (by kernel_rfl) (by simp) ?_
   refine (AllReadyIn.cons (o:=⟨some 13,.load 72 (.tmp 12),72,"sim.go:80",#[⟨2,.data⟩],none⟩) rfl (fun K3 hK3=>?_) AllReadyIn.nil)
   refine ZaJ 72 Zad rfl (by rfl) rfl (ld29 cld) (hK3 _ _ ?_)
   clear hK3 K3
   try simp only [Act.put,PuA]
   refine wpAnyIn_ready (rs:=[8]) (by kernel_rfl) (by simp) ?_
   refine (AllReadyIn.cons (o:=⟨some 18,.call { callee:=.value (.func 112),args:=#[.tmp 13,.tmp 16,.tmp 17],argTypes:=#[72,176,5] },178,"sim.go:80",#[⟨3,.data⟩,⟨6,.data⟩,⟨7,.data⟩],none⟩) rfl (fun K8 hK8=>?_) AllReadyIn.nil)
   go_simp
   refine⟨trivial,fun h=>(by cases h),(ZmJ _ ad m c ⟨g,1,none⟩ b _).mono ?_⟩
   rintro e w4 ⟨gA,gL,gb,rfl,f1,f2,f3,B4,n1,n2,n3⟩
   replace B4:Below w.heap.size w.drew w4:=B4
   refine hK8 _ _ ?_
   clear hK8 K8
   try simp only [Act.put,PuA]
   refine wpAnyIn_done (by kernel_rfl) ?_ _
   refine NoPanic.normal ?_
   exact h.out _ _ _ _ f1 f2 f3 (hD.trans B4) n1 n2 n3
 ·refine ZaJ 124 Zad rfl (by rfl) rfl (Zk4 c1d) (hK4 _ _ ?_)
  clear hK4 K4
  try simp only [Act.put,PuA]
  refine wpAnyIn_take (i:=5) (oi:=⟨some 15,.nilCheck (.tmp 14),0,"sim.go:80",#[⟨4,.data⟩],none⟩) (v:=?_) rfl rfl (by kernel_rfl) (by kernel_rfl) (by kernel_rfl) (fun _ _ _ h=>h) ⟨Or.inl ⟨by rfl,?_⟩,fun _=>rfl⟩ ?_
  rotate_left
  ·intro w'
   go_simp
   try with_reducible rfl
  try simp only [Act.put,PuA]
  refine wpAnyIn_take (i:=6) (oi:=⟨some 16,.fieldAddr 174 (.tmp 15) 1,0,"sim.go:80",#[⟨5,.data⟩],none⟩) (v:=?_) rfl rfl (by kernel_rfl) (by kernel_rfl) (by kernel_rfl) (fun _ _ _ h=>h) ⟨Or.inl ⟨by rfl,?_⟩,fun _=>rfl⟩ ?_
  rotate_left
  ·intro w'
   go_simp
   try with_reducible rfl
  try simp only [Act.put,PuA]
  refine wpAnyIn_ready (rs:=[0]) (by kernel_rfl) (by simp) ?_
  refine (AllReadyIn.cons (o:=⟨some 10,.load 124 (.tmp 2),124,"sim.go:80",#[],none⟩) rfl (fun K0 hK0=>?_) AllReadyIn.nil)
  refine ZaJ 124 Zad rfl (by rfl) rfl (Zk4 c1d) (hK0 _ _ ?_)
  clear hK0 K0
  try simp only [Act.put,PuA]
  refine wpAnyIn_take (i:=1) (oi:=⟨some 11,.nilCheck (.tmp 10),0,"sim.go:80",#[⟨0,.data⟩],none⟩) (v:=?_) rfl rfl (by kernel_rfl) (by kernel_rfl) (by kernel_rfl) (fun _ _ _ h=>h) ⟨Or.inl ⟨by rfl,?_⟩,fun _=>rfl⟩ ?_
  rotate_left
  ·intro w'
   go_simp
   try with_reducible rfl
  try simp only [Act.put,PuA]
  refine wpAnyIn_take (i:=2) (oi:=⟨some 12,.fieldAddr 174 (.tmp 11) 0,0,"sim.go:80",#[⟨1,.data⟩],none⟩) (v:=?_) rfl rfl (by kernel_rfl) (by kernel_rfl) (by kernel_rfl) (fun _ _ _ h=>h) ⟨Or.inl ⟨by rfl,?_⟩,fun _=>rfl⟩ ?_
  rotate_left
  ·intro w'
   go_simp
   try with_reducible rfl
  try simp only [Act.put,PuA]
  refine wpAnyIn_ready (rs:=[3]) (by kernel_rfl) (by simp) ?_
  refine (AllReadyIn.cons (o:=⟨some 13,.load 72 (.tmp 12),72,"sim.go:80",#[⟨2,.data⟩],none⟩) rfl (fun K3 hK3=>?_) AllReadyIn.nil)
  refine ZaJ 72 Zad rfl (by rfl) rfl (ld29 cld) (hK3 _ _ ?_)
  clear hK3 K3
  try simp only [Act.put,PuA]
  refine wpAnyIn_ready (rs:=[8]) (by kernel_rfl) (by simp) ?_
  refine (AllReadyIn.cons (o:=⟨some 18,.call { callee:=.value (.func 112),args:=#[.tmp 13,.tmp 16,.tmp 17],argTypes:=#[72,176,5] },178,"sim.go:80",#[⟨3,.data⟩,⟨6,.data⟩,⟨7,.data⟩],none⟩) rfl (fun K8 hK8=>?_) AllReadyIn.nil)
  go_simp
  refine⟨trivial,fun h=>(by cases h),(ZmJ _ ad m c ⟨g,1,none⟩ b _).mono ?_⟩
  rintro e w4 ⟨gA,gL,gb,rfl,f1,f2,f3,B4,n1,n2,n3⟩
  replace B4:Below w.heap.size w.drew w4:=B4
  refine hK8 _ _ ?_
  clear hK8 K8
  try simp only [Act.put,PuA]
  refine wpAnyIn_done (by kernel_rfl) ?_ _
  refine NoPanic.normal ?_
  exact h.out _ _ _ _ f1 f2 f3 (hD.trans B4) n1 n2 n3
section
variable {S:Nat->Prop}{w0:World}{L:List Ent}{F:Fence}{n:Nat}{w w':World}{ops:Array Oper}{rest:List Oper}{a:Act}{Q:Exit->Act->World->Prop}{dst:Option Nat}{x y:Operand}{ty:TypeId}{pos:String}{after:Array Edge}
theorem ZhZ (hF:∀ f,F.fn f)(H:St S w0 w L)(h:∀ g w',St S w0 w' ((true,g,172,pA #[] noW)::L)->w0.heap.size<=g->wpListIn F n Tryz.prog ops Q rest (a.put dst (.pointer (some ⟨g,0,none⟩))) w'):wpListIn F n Tryz.prog ops Q (⟨dst,.alloc 172,ty,pos,after,none⟩::rest) a w:=by
 have e:(execOp a.eval ⟨dst,.alloc 172,ty,pos,after,none⟩).run Tryz.prog w=.ok (.value (.pointer (some ⟨w.heap.size,0,none⟩))) (w.alloc (.cells (pA #[] noW) 172)):=by
  unfold execOp
  kernel_rfl
 exact ZaF hF (fun c=>nofun) e (h _ _ (H.alloc 172 _) H.but.size)
theorem ZnJ (hF:∀ f,F.fn f){g:Nat}{v:Value}{W V:List Nat}(hW:OkW W)(hV:OkW V)(hg:w.heap[g]?=some (.cells (pA #[v] W) 174 (0,0)))(hx:a.eval x=.pointer (some ⟨g,1,none⟩))(hy:a.eval y=.agg (wA V))(h:∀ w',w'.heap[g]?=some (.cells (pA #[v] V) 174 (0,0))->But (fun k=>k=g) w w'->wpListIn F n Tryz.prog ops Q rest a w'):wpListIn F n Tryz.prog ops Q (⟨none,.store 172 x y,ty,pos,after,none⟩::rest) a w:=by
 have hi:(Tryz.prog.info? 172).map (·.size)=some 32:=by kernel_rfl
 have hs:(wA V).size=32:=by rw [Zd2,hV.len]
 have hth:w.there g 1 (wA V).size:=fun j hj=>by
  have e:w.cell? ⟨g,1+j,none⟩=some (.int .u64 ((W.getD j 0:Nat):Int)):=by
   rw [cell_of_row w g _ _ 174 (0,0) hg]
   exact pA_at (pre:=#[v]) (by rw [hW.len];omega)
  exact⟨by rw [e];rfl,frozen_of_row w g _ _ 174 hg⟩
 have hr:=run_storeVar_mid (P:=Tryz.prog) w g 1 172 (wA V) hth (by rw [hi,hs]) (wA_all V)
 have H:St (fun k=>k=g) w w [(true,g,174,pA #[v] W)]:=⟨But.refl _ _,fun x hx=>by rw [List.mem_singleton.1 hx];exact hg,fun x hx _ _=>by rw [List.mem_singleton.1 hx],by simp⟩
 have H2:=St.setCellsB (g:=g) (t:=174) 0 (wA V).toList 1 w _ _ H rfl
 have e1:ZnI (pA #[v] W) 1 (wA V).toList=pA #[v] V:=by
  have:=ZhY (wA V).toList (wA W).toList [v] [] (by simp [Zd2,hV.len,hW.len])
  simp only [List.append_nil,List.length_cons,List.length_nil,Nat.zero_add] at this
  have e2:∀ U:List Nat,([v]++(wA U).toList).toArray=pA #[v] U:=fun U=>by
   unfold pA
   apply Array.ext'
   simp
  rw [e2,e2] at this
  exact this
 rw [e1] at H2
 refine Za4 (w':=w.setCells g 1 (wA V).toList) hF (fun c=>nofun) ?_ (h _ (H2.get 0 rfl) H2.but)
 unfold execOp
 simp only [hx,hy,Instr.storeAt,Instr.sureAddr,Sem.run_bind,Sem.run_pure,Result.andThen_ok,hr]
end
structure FdI (w0:World) (gR g5:Nat) (v:Value) (L:List Ins) (zs:List Nat) (Wd:World):Prop where
 bR:Wd.heap[gR]?=some (.cells #[v] 124 (0,0))
 set:∃ W5,OkW W5/\(∀ m,inW W5 m=true↔∃ z ∈ zs,Eps L z m)/\Wd.heap[g5]?=some (.cells (pA #[] W5) 172 (0,0))
 bel:Below w0.heap.size w0 Wd
theorem FdI.own {w0:World}{gR g5 B:Nat}{v:Value}{L:List Ins}{zs:List Nat}{W W':World}{row:Option Nat}(h:FdI w0 gR g5 v L zs W)(hB:w0.heap.size<=B)(hg:W.grownBy W' row)(hr:∀ r,row=some r->B<=r/\∃ o:Obj,W.heap[r]?=some o/\o.isCells=false):FdI w0 gR g5 v L zs W':=by
 have ne:∀ g xs t,W.heap[g]?=some (.cells xs t (0,0))->some g≠row:=fun g xs t h e=>by
  obtain⟨_,o,ho,hc⟩:=hr g e.symm
  rw [h] at ho
  cases ho
  cases hc
 obtain⟨W5,h1,h2,h3⟩:=h.set
 exact⟨(hg.block gR (Array.getElem?_eq_some_iff.1 h.bR).1 (ne _ _ _ h.bR)).trans h.bR,⟨W5,h1,h2,(hg.block g5 (Array.getElem?_eq_some_iff.1 h3).1 (ne _ _ _ h3)).trans h3⟩,h.bel.grown hg h.bel.size (fun k e=>by have:=(hr k e).1;omega)⟩
theorem nxt_led {L:List Ins}{W:List Nat}(hW:OkW W){b:Nat}(m:Nat):(∃ z ∈ ldl L b (ZiG W),Eps L z m)↔nxt L (snW W) b m:=by
 constructor
 ·rintro⟨z,hz,he⟩
  obtain⟨i,hi,hx⟩:=List.mem_filterMap.1 hz
  unfold ldx at hx
  cases hq:L[i]? with
  | none=>rw [hq] at hx;cases hx
  | some q =>
   rw [hq] at hx
   simp only at hx
   split at hx
   ·rename_i h
    cases hx
    exact⟨i,q,(Zc6 hW i).1 hi,hq,h.1,h.2,he⟩
   ·cases hx
 ·rintro⟨i,q,h1,h2,h3,h4,h5⟩
  exact⟨q.x.toNat,List.mem_filterMap.2 ⟨i,(Zc6 hW i).2 h1,ZmI h2 ⟨h3,h4⟩⟩,h5⟩
theorem ldl_lt {L:List Ins}(hG:GoL L){b:Nat}{M:List Nat}:∀ z ∈ ldl L b M,z<L.length:=fun z hz=>by
 obtain⟨i,hi,hx⟩:=List.mem_filterMap.1 hz
 unfold ldx at hx
 cases hq:L[i]? with
 | none=>rw [hq] at hx;cases hx
 | some q =>
  rw [hq] at hx
  simp only at hx
  split at hx
  ·rename_i h
   cases hx
   have:=(hG q (List.mem_of_getElem? hq)).1 (.inr (.inr h.1))
   omega
  ·cases hx
set_option maxRecDepth 100000 in
theorem feed_in (n:Nat)(hn:5<=n)(g:Nat)(ad:Option Addr)(c:Nat)(L:List Ins)(W:List Nat)(hW:OkW W)(b:Nat)(hb:b<256)(w:World)(hR:Rn w g ad L.length c W)(hL:HsI w (fun k=>k<w.heap.size/\k≠g) ad L)(hin:∀ i,inW W i=true->i<L.length)(hT:Tab w)(h0:0<L.length)(hlen:L.length<=2048)(hG:GoL L)(hok:∀ q ∈ L,OkS q.s) :
  CallsIn Fence.wide n Tryz.prog 67 #[.pointer (some ⟨g,0,none⟩),.int .u8 (b:Int)] w fun e w'=>∃ V,e=.returned (.bool (!decide (V=noW)))/\OkW V/\(∀ m,inW V m=true↔nxt L (snW W) b m)/\Rn w' g ad L.length c V/\But (fun k=>k=g) w w':=by
 have H:=St.start Nope w
 have lg:=hR.lt
 have hpos:=hT.pos
 replace hL:=Zaa hL
 replace hR:=Zaa hR
 replace hin:=Zaa hin
 replace hW:=Zaa hW
 replace hT:=Zaa hT
 replace hG:=Zaa hG
 replace hok:=Zaa hok
 refine callsIn_of_wp_marks Tryz.func67 rfl trivial ?_ rfl
 simp only [Tryz.ntmps67,List.size_toArray,List.length_cons,List.length_nil,Nat.reduceAdd,Nat.reduceSub,Array.replicate_succ,Array.replicate_zero,List.push_toArray,List.append_toArray,List.nil_append,List.cons_append]
 gi_wp2_with (first|((with_reducible refine Zbh 124 ?_);refine ZhX Zad H rfl ?_;clear H;intro gR w1 H q1;have c1:=H.cell 0 0 rfl (v:=.pointer (some ⟨g,0,none⟩)) rfl;have hb1:=Zaa H.below)|((with_reducible refine Zah 124 ?_);refine Zai 124 Zad rfl (Zk4 c1) ?_))
 refine⟨trivial,fun h=>(by cases h),(callsIn_wide.2 (Zd3 g ad L.length c h0 w1 (hR.out.kept (hb1.out.block g lg)).l)).mono ?_⟩
 rintro e w3 ⟨rfl,rfl⟩
 clear c1
 gi_wp2_with (first|((with_reducible refine ZaO 172 ?_);refine ZhZ Zad H ?_;clear H;intro g5 w4 H q5;have c1:=H.cell 1 0 rfl (v:=.pointer (some ⟨g,0,none⟩)) rfl;have hb4:=Zaa H.below))
 have R4:Rn w4 g ad L.length c W:=hR.out.kept (hb4.out.block g lg)
 have hl1:=H.lti 1 rfl
 have hl0:=H.lti 0 rfl
 have hne:Hid (gR≠g5):=fun e=>by have:=H.nd;simp [e] at this
 refine reg32_4 _ [] w4 gR g b L.length c ad c1 R4.l _ _ _ _ _ _ _ _ _ _ _ _ _ _ _ _ _ _ _ _ _ _ _ _ _ _ _ _ _ _ _ _ ?_
 intro gA gL gb w5 f1 f2 f3 B5 n1 n2 n3
 replace H:=H.call B5 (Nat.le_refl _)
 have hb5:=H.below
 have hs5:=hb5.size
 have hs45:=B5.size
 have h15:=H.get 1 rfl
 have h05:=H.get 0 rfl
 have R5:Rn w5 g ad L.length c W:=hR.out.kept (hb5.block g lg)
 have hL5:HsI w5 (fun k=>¬ k=g5) ad L:=hL.out.kept (fun k _ hk=>hb5.block k hk) (fun k hk h=>by omega)
 have hst:=ZmK (Pr:=fun z=>z<L.length) (fun k=>k=g5) (n - 1) (by omega) gA gL gb g #[.slice ad L.length c] 174 W hW.out ad c L b hb w5 f1 f2 f3 R5 (hT.out.below hb5) hL5 hok.out hG.out hin.out (by omega) (by omega) (by omega) (fun k hk=>by omega) (ldl_lt hG.out)
 have I0:FdI w gR g5 (.pointer (some ⟨g,0,none⟩)) L [] w5:=⟨h15,⟨noW,OkW.no,fun m=>by rw [ZjG];simp,h05⟩,hb5⟩
 clear H c1 R4
 replace f1:=Zaa f1
 replace f2:=Zaa f2
 replace f3:=Zaa f3
 replace B5:=Zaa B5
 replace hL5:=Zaa hL5
 gi_wp2
 refine ZiN rfl (by omega) (gf:=167) (lb:=#[.pointer (some ⟨gA,0,none⟩),.pointer (some ⟨gL,0,none⟩),.pointer (some ⟨gb,0,none⟩)]) rfl (Zad 167) (enters_of Tryz.func167 (by kernel_rfl) rfl)
  hst (fun h k=>h.trans k) (fun Wd l o o' hl ho hc _=>⟨by simp [World.putObj],fun k cs t fr _ e=>(World.putObj_heap_other (fun h=>by rw [h,ho] at e;cases e;cases hc)).trans e⟩) (Below.refl _ w5) (fun _=>rfl)
  (fun (pr:List { z:Nat // z<L.length }) Wd=>FdI w gR g5 (.pointer (some ⟨g,0,none⟩)) L (pr.map Subtype.val) Wd)
  (fun _ _ _=>False)
  (fun pr Wd Wd' row hs hg hr=>hs.own hs5 hg hr)
  (fun _ _ _ _ _ hs _ _=>hs)
  I0
  (fun z a' Wd=>∃ (u0 u3 u4 u7 u8 u9 u10 u11 u12 u13 u14 u15 u16 u17 u18 u19 u20 u21 u22 u23 u24 u25 u26 u27 u28 u29 u30 u31 u32:Value),a'={ tmps:=#[u0,.int .u8 (b:Int),.pointer (some ⟨gR,0,none⟩),u3,u4,.pointer (some ⟨g5,0,none⟩),.int .i64 (z.1:Int),u7,u8,u9,u10,u11,u12,u13,u14,u15,u16,u17,u18,u19,u20,u21,u22,u23,u24,u25,u26,u27,u28,u29,u30,u31,u32],defers:=[] })
  (fun x a' _ Wd Wd' row hs hg hr=>hs) ?assign ?body ?done ?stop
 case assign =>
  intro l pr x Wd K hi hK
  simp only [encN,List.zip_toArray,List.zip_cons_cons,List.zip_nil_left,List.zip_nil_right,List.foldl_toArray,List.foldl_cons,List.foldl_nil,List.setIfInBounds_toArray,List.set_cons_zero,List.set_cons_succ]
  replace hK:=Zaa hK
  replace hi:=Zaa hi
  gi_wp2
  exact hK.out _ Wd ⟨Nat.le_refl _,fun _ _ _ h _=>h⟩ (Kc.refl _ _) hi.out ⟨_,_,_,_,_,_,_,_,_,_,_,_,_,_,_,_,_,_,_,_,_,_,_,_,_,_,_,_,_,rfl⟩
 case body =>
  rintro l pr ⟨z,hz⟩ a' Wd hl ⟨r,hr⟩ hi ⟨u0,u3,u4,u7,u8,u9,u10,u11,u12,u13,u14,u15,u16,u17,u18,u19,u20,u21,u22,u23,u24,u25,u26,u27,u28,u29,u30,u31,u32,rfl⟩ hlt
  have c1:=Zal hi.bR 0 (v:=.pointer (some ⟨g,0,none⟩)) rfl
  have Rd:Rn Wd g ad L.length c W:=hR.out.kept (hi.bel.block g lg)
  have cl:=Rd.l
  obtain⟨W5,k1,k2,k3⟩:=hi.set
  have hsd:=hi.bel.size
  have hLd:HsI Wd (fun k=>k<Wd.heap.size/\k≠g5) ad L:=hL.out.kept (fun k _ hk=>hi.bel.block k hk) (fun k hk h=>by omega)
  have hcl:Clsd L (snW W5):=fun i q hi2 hq=>by
   have hi3:inW W5 i=true:=hi2
   obtain⟨y,hy,he⟩:=(k2 i).1 hi3
   exact⟨fun h=>(k2 _).2 ⟨y,hy,he.goX hq h⟩,fun h=>(k2 _).2 ⟨y,hy,he.goY hq h⟩⟩
  have hst2:Calls Tryz.prog 110 #[.slice ad L.length c,.pointer (some ⟨g5,0,none⟩),.int .i64 (z:Int)] Wd _:=callsIn_wide.1 (ZjM 5 (by omega) ad c L z g5 #[] 172 W5 Wd hLd hG.out hlen hz k1 hcl k3)
  have lR:=(Array.getElem?_eq_some_iff.1 hi.bR).1
  replace hst2:=Zaa hst2
  replace k2:=Zaa k2
  replace k3:=Zaa k3
  have hiH:=Zaa hi
  replace hr:=Zaa hr
  replace Rd:=Zaa Rd
  replace hLd:=Zaa hLd
  replace hcl:=Zaa hcl
  clear hi
  gi_wp2_with (first|((with_reducible refine Zah 124 ?_);refine Zai 124 (Zan l) rfl (Zk4 c1) ?_)|((with_reducible refine Zah 72 ?_);refine Zai 72 (Zan l) rfl (ld29 cl) ?_))
  refine⟨trivial,fun h=>(by cases h),(callsIn_wide.2 hst2.out).mono ?_⟩
  rintro e w9 ⟨⟨v,rfl⟩,hb9,W9,hW9,hin9,hs9⟩
  replace hb9:=Zaa hb9
  replace hin9:=Zaa hin9
  replace hs9:=Zaa hs9
  gi_wp2
  refine⟨Za7 hb9.out (fun k h=>.inl (by omega)),⟨hb9.out.size,fun k cs t fr hk e=>(hb9.out.block k (Array.getElem?_eq_some_iff.1 e).1 hk).trans e⟩,⟨(hb9.out.block gR lR hne.out).trans hiH.out.bR,⟨W9,hW9,fun m=>?_,hs9.out⟩,hiH.out.bel.trans (hb9.out.below hsd (fun k h=>by omega))⟩⟩
  rw [hin9.out m,k2.out m]
  simp only [List.map_append,List.map_cons,List.map_nil,List.mem_append,List.mem_singleton]
  constructor
  ·rintro (⟨y,hy,he⟩|he)
   ·exact⟨y,.inl hy,he⟩
   ·exact⟨z,.inr rfl,he⟩
  ·rintro⟨y,hy|hy,he⟩
   ·exact .inl ⟨y,hy,he⟩
   ·rw [hy] at he;exact .inr he
 case done =>
  rintro D xs Wd hD hS hI hK
  obtain⟨W5,k1,k2,k3⟩:=hI.set
  have c1:=Zal hI.bR 0 (v:=.pointer (some ⟨g,0,none⟩)) rfl
  have Rd:Rn Wd g ad L.length c W:=hR.out.kept (hI.bel.block g lg)
  have hl101:(loadVar 172 ⟨g5,0,none⟩).run Tryz.prog Wd=.ok (.agg (wA W5)) Wd:=Zmo k1 k3
  have lR:=(Array.getElem?_eq_some_iff.1 hI.bR).1
  have hsd:=hI.bel.size
  have k4:∀ m,inW W5 m=true↔nxt L (snW W) b m:=fun m=>by
   rw [k2 m,hS]
   exact nxt_led hW.out m
  replace k2:=Zaa k2
  replace k3:=Zaa k3
  replace k4:=Zaa k4
  replace hl101:=Zaa hl101
  replace hS:=Zaa hS
  replace Rd:=Zaa Rd
  have hIH:=Zaa hI
  replace hK:=Zaa hK
  clear hI
  gi_wp2_with (first|((with_reducible refine Zah 124 ?_);refine Zai 124 Zad rfl (Zk4 c1) ?_)|((with_reducible refine Zah 172 ?_);refine Zai 172 Zad rfl hl101.out ?_)|((with_reducible refine Zay 172 ?_);refine ZnJ Zad hW.out k1 Rd.out rfl rfl ?_;intro w7 hn7 B7;have c7:=Zal ((B7.block gR lR (by omega)).trans hIH.out.bR) 0 (v:=.pointer (some ⟨g,0,none⟩)) rfl;clear c1;replace hn7:=Zaa hn7;replace B7:=Zaa B7)|((with_reducible refine Zah 124 ?_);refine Zai 124 Zad rfl (Zk4 c7) ?_))
  refine⟨trivial,fun h=>(by cases h),(callsIn_wide.2 (dead_any g ad L.length c h0 W5 k1 w7 hn7.out)).mono ?_⟩
  rintro e w8 ⟨rfl,rfl⟩
  generalize hdd:decide (W5=noW)=dd
  replace hdd:=Zaa hdd
  gi_wp2
  have hlD:=(Array.getElem?_eq_some_iff.1 hK.out).1
  have hK7:w8.heap[D]?=some (.deferred (some [])):=(B7.out.block D hlD (fun e=>by omega)).trans hK.out
  have B77:=grownBy_putObj' w8 D (.deferred none)
  refine⟨by simp,.inl ⟨_,_,rfl,run_takeDeferred hK7,?_⟩⟩
  refine⟨_,results_tmp rfl _ _ _,W5,?_,k1,k4.out,(B77.block g (by have:=B7.out.size;omega) (fun e=>by cases e;omega)).trans hn7.out,?_⟩
  ·rw [hdd.out];rfl
  ·exact ((Zbd hIH.out.bel (fun k=>k=g) (fun k hk h=>by omega)).trans B7.out (fun _ _ h=>h)).grown B77 (fun k e hk=>by cases e;omega)
 case stop=>rintro D cc pr Wd hD hS h;exact h.elim
end
section
open Go.RowKit Go.Shelf
def bys (s:ByteArray):List Nat:=(List.range s.size).map (fun k=>(bt s k).toNat)
theorem bys_len (s:ByteArray):(bys s).length=s.size:=by simp [bys]
theorem bys_at {s:ByteArray}{k:Nat}(h:k<s.size):(bys s)[k]?=some (bt s k).toNat:=by simp [bys,h]
theorem bys_take {s:ByteArray}{k:Nat}(h:k<s.size):(bys s).take (k+1)=(bys s).take k++[(bt s k).toNat]:=by
 rw [List.take_add_one,bys_at h]
 rfl
theorem eps_lt {L:List Ins}(hG:GoL L){i j:Nat}(h:i<L.length)(e:Eps L i j):j<L.length:=by
 induction e with
 | refl=>exact h
 | goX _ h1 h2 ih=>have:=(hG _ (List.mem_of_getElem? h1)).1 (by omega);omega
 | goY _ h1 h2 ih=>have:=(hG _ (List.mem_of_getElem? h1)).2 h2;omega
theorem nxt_lt {L:List Ins}(hG:GoL L){S:Sn}{b j:Nat}(h:nxt L S b j):j<L.length:=by
 obtain⟨i,q,_,h2,h3,_,h5⟩:=h
 have:=(hG _ (List.mem_of_getElem? h2)).1 (.inr (.inr h3))
 exact eps_lt hG (by omega) h5
theorem stn_lt {L:List Ins}(hG:GoL L)(h0:0<L.length)(s:List Nat):∀ j,stn L s j->j<L.length:=by
 rcases List.eq_nil_or_concat s with rfl|⟨p,b,rfl⟩
 ·exact fun j h=>eps_lt hG h0 h
 ·rw [List.concat_eq_append,ZjJ]
  exact fun j h=>nxt_lt hG h
theorem ZnK {L:List Ins}{S T:Sn}(h:∀ m,S m↔T m)(b m:Nat):nxt L S b m↔nxt L T b m:=by
 constructor
 ·rintro⟨i,q,h1,h2⟩;exact⟨i,q,(h i).1 h1,h2⟩
 ·rintro⟨i,q,h1,h2⟩;exact⟨i,q,(h i).2 h1,h2⟩
theorem Zk6 {L:List Ins}{S T:Sn}(h:∀ m,S m↔T m):accS L S↔accS L T:=by
 constructor
 ·rintro⟨i,q,h1,h2⟩;exact⟨i,q,(h i).1 h1,h2⟩
 ·rintro⟨i,q,h1,h2⟩;exact⟨i,q,(h i).2 h1,h2⟩
theorem stn_dead {L:List Ins}(p r:List Nat)(h:∀ m,¬ stn L p m):∀ m,¬ stn L (p++r) m:=by
 unfold stn
 rw [List.foldl_append]
 exact Zht r _ h
structure RnS (L:List Ins) (g:Nat) (ad:Option Addr) (c:Nat) (p:List Nat) (W:List Nat) (w:World):Prop where
 ok:OkW W
 st:∀ m,inW W m=true↔stn L p m
 rn:Rn w g ad L.length c W
set_option maxRecDepth 100000 in
theorem ZnL (ad:Option Addr)(c:Nat)(L:List Ins)(s:ByteArray)(w:World)(hL:HsI w (fun k=>k<w.heap.size) ad L)(hT:Tab w)(hG:GoL L)(hok:∀ q ∈ L,OkS q.s)(hc:chkS L s=0)(h0:0<L.length)(hlen:L.length<=2048)(hs:s.size<=65536) :
  Calls Tryz.prog 30 #[.slice ad L.length c,.string s] w fun e w'=>Below w.heap.size w w'/\∃ x:Bool,e=.returned (.tuple #[.bool x,.int .i64 0])/\(x=true↔accS L (stn L (bys s))):=by
 have H1:=Zaa (ZmF ad c L s w hL)
 rw [hc] at H1
 have hpos:=hT.pos
 replace hL:=Zaa hL
 replace hT:=Zaa hT
 replace hG:=Zaa hG
 replace hok:=Zaa hok
 clear hc
 go_enter Tryz.func30,Tryz.ntmps30
 go_wp2_with fail
 refine H1.out.mono ?_
 rintro e w1 ⟨rfl,B1⟩
 have hL1:HsI w1 (fun k=>k<w1.heap.size) ad L:=hL.out.kept (fun k _ hk=>B1.block k hk) (fun k hk h=>by have:=B1.size;omega)
 replace B1:=Zaa B1
 replace hL1:=Zaa hL1
 go_wp2_with fail
 refine (ZmE ad c L w1 hL1.out hG.out hlen h0).mono ?_
 rintro e w2 ⟨g,W,rfl,hg,B2,hW,hst,hR⟩
 have hs1:=B1.out.size
 have B12:Below w.heap.size w w2:=B1.out.trans (B2.mono hs1)
 have R2:Hid (RnS L g ad c ((bys s).take 0) W w2):=⟨hW,hst,hR⟩
 replace B12:=Zaa B12
 replace B2:=Zaa B2
 clear hst hR hW
 have hgl:w.heap.size<=g:=by omega
 go_wp2_with fail
 go_loopw [19] (fun v wr=>∃ (k:Nat) (W:List Nat),v=.int .i64 ((k:Nat):Int)/\k<=s.size/\Hid (RnS L g ad c ((bys s).take k) W wr)/\Hid (Below w.heap.size w wr)) (fun v _=>s.size - (RowKit.intOf v).toNat)
 case atStart=>exact⟨0,W,rfl,Nat.zero_le _,R2,B12⟩
 case round =>
  obtain⟨k,V,rfl,hk,hR,hB⟩:=hrel
  have hBs:=hB.out.size
  have hLr:Hid (HsI wr (fun k=>k<wr.heap.size/\k≠g) ad L):=hL.out.kept (fun k _ hk=>hB.out.block k hk) (fun k hk h=>by omega)
  have hTr:Hid (Tab wr):=hT.out.below hB.out
  have hin:Hid (∀ i,inW V i=true->i<L.length):=fun i hi=>stn_lt hG.out h0 _ i ((hR.out.st i).1 hi)
  by_cases hlt:k<s.size
  ·have i1:(k:Int)<(s.size:Int):=by omega
   have i2:¬ ((s.size:Int)<=(k:Int)):=by omega
   have b0:=bt_eq hlt
   have hbr:=Zdw s k
   obtain⟨b,hb⟩:∃ b:Nat,bt s k=(b:Int):=⟨(bt s k).toNat,by omega⟩
   have hb2:b<256:=by omega
   have htk:=bys_take hlt
   rw [hb] at b0 htk
   simp only [Int.toNat_natCast] at htk
   have hfeed:=Zaa (callsIn_wide.1 (feed_in 6 (by omega) g ad c L V hR.out.ok b hb2 wr hR.out.rn hLr.out hin.out hTr.out h0 hlen hG.out hok.out))
   replace htk:=Zaa htk
   replace hb:=Zaa hb
   clear hbr
   have hltH:=Zaa hlt
   go_wp2_with fail
   refine hfeed.out.mono ?_
   rintro e w9 ⟨V9,rfl,hV9,hst9,hR9,hb9⟩
   have hS9:RnS L g ad c ((bys s).take (k+1)) V9 w9:=⟨hV9,fun m=>by
    rw [hst9 m,htk.out,ZjJ]
    exact ZnK (fun i=>hR.out.st i) b m,hR9⟩
   have hB9:Hid (Below w.heap.size w w9):=hB.out.trans (hb9.below hBs (fun k e=>by omega))
   by_cases hd:V9=noW
   ·have hdd:decide (V9=noW)=true:=by simp [hd]
    rw [hdd]
    have hno:¬ accS L (stn L (bys s)):=by
     have hn:∀ m,¬ stn L ((bys s).take (k+1)) m:=fun m h=>by
      have:=(hS9.st m).2 h
      rw [hd,ZjG] at this
      cases this
     have:=stn_dead ((bys s).take (k+1)) ((bys s).drop (k+1)) hn
     rw [List.take_append_drop] at this
     rintro⟨i,_,h1,_⟩
     exact this i h1
    replace hno:=Zaa hno
    replace hS9:=Zaa hS9
    clear hst9 hR9 hb9 hd
    go_wp2_with fail
    go_ret2
    exact⟨hB9.out,false,rfl,by simpa using hno.out⟩
   ·have hdd:decide (V9=noW)=false:=by simp [hd]
    rw [hdd]
    replace hS9:=Zaa hS9
    clear hst9 hR9 hb9 hd
    go_wp2_with fail
    go_roundw
    case rel=>exact⟨k+1,V9,by go_num,hltH.out,hS9,hB9⟩
    case measure=>have:=hltH.out;simp [RowKit.intOf];omega
  ·obtain rfl:k=s.size:=by omega
   have hall:(bys s).take s.size=bys s:=by rw [<- bys_len s,List.take_length]
   have hacc:=Zaa (callsIn_wide.1 (acc_in 5 (by omega) g ad c L V hR.out.ok wr hR.out.rn (hLr.out.kept (fun _ _ _=>rfl) (fun k _ h=>h.1)) hin.out hTr.out h0))
   go_wp2_with fail
   refine hacc.out.mono ?_
   rintro e w9 ⟨rfl,B9⟩
   have hx:accB L V=true↔accS L (stn L (bys s)):=by
    rw [accB_iff hR.out.ok]
    refine Zk6 (fun m=>?_)
    have:=hR.out.st m
    rw [hall] at this
    exact this
   generalize accB L V=xb at hx
   replace hx:=Zaa hx
   replace B9:=Zaa B9
   go_wp2_with fail
   go_ret2
   exact⟨hB.out.trans (B9.out.mono hBs),xb,rfl,hx.out⟩
end
section
open Go.RowKit Go.Shelf Go.Lib
theorem ZgE (s:S4):eqS s s=true:=by simp [eqS]
theorem tgt_in {n m:Nat}{z:Int}(h:Tgt (fun _=>False) 0 n m z)(hm:n<=m):0<=z/\z<=(m:Int):=by
 rcases h with h|h|h
 ·omega
 ·omega
 ·exact h.elim
theorem ZnM {n:Nat}{i:Ins}(h:OkI (fun _=>False) 0 n n i):Zk8 i (n+1)=true/\i.op≠3:=by
 obtain⟨h1,h2⟩:=h
 have hx:=tgt_in h2 (Nat.le_refl _)
 rcases h1 with⟨h,hy⟩|⟨h,hs,hy⟩|⟨h,hs,hy⟩
 ·refine⟨?_,by omega⟩
  unfold Zk8
  rw [h,hy]
  simp [fm,bnd,inB]
  omega
 ·refine⟨?_,by omega⟩
  unfold Zk8
  rw [h,hy,hs,ZgE]
  simp [fm,bnd,inB]
  omega
 ·have hy:=tgt_in hy (Nat.le_refl _)
  refine⟨?_,by omega⟩
  unfold Zk8
  rw [h,hs,ZgE]
  simp [fm,bnd,inB]
  omega
theorem prg_chk (t:Tr)(hf:ZcF t)(hn:(prg t).n<=2048):chkI ((prg t).put 0 0)=0:=by
 have hl:=(prg t).len 0 0
 have hp:=(prg t).pos
 have hN:=Zjn t hf
 unfold chkI
 rw [if_neg (by omega),if_pos]
 rw [List.all_eq_true]
 intro i hi
 rw [hl,prg_n]
 rw [Zf4] at hi
 rcases List.mem_append.1 hi with hi|hi
 ·exact (ZnM (by simpa using hN.ops 0 (cdT t).n i hi)).1
 ·rw [List.mem_singleton.1 hi]
  simp [Zk8,fm,bnd,inB,ZgE]
end
section
open Go.RowKit
set_option maxRecDepth 100000 in
theorem make_no (t:Tr)(P:Nat->Prop)(x:Value)(w:World)(T:TrV w P x t)(hf:¬ ZcF t)(hsz:szT t<=4096)(hdp:dpT t<=128):Calls Tryz.prog 29 #[x] w fun e w'=>e=.returned (.tuple #[.slice none 0 0,.int .i64 2])/\Below w.heap.size w w':=by
 have H:=St.start Nope w
 have hT:Hid (TrV w P x t):=T
 have CH:=Zaa (fun w' T=>Zj7 t P x w' T hf hsz hdp)
 obtain⟨va,vn,vc,rfl⟩:=T.val
 clear T
 replace hf:=Zaa hf
 go_enter Tryz.func29,Tryz.ntmps29
 go_wp2_with (first|((with_reducible refine Zar 27 ?_);refine ZaM H rfl ?_;clear H;intro g1 w1 H q1 q2)|((with_reducible refine Zac 27 ?_);refine Zas 0 H rfl rfl ?_))
 refine (CH.out _ (hT.out.kept (fun b _ hl=>H.below.block b hl))).mono ?_
 rintro e w2 ⟨rfl,B2⟩
 replace H:=H.call B2 (Nat.le_refl _)
 go_wp2_with fail
 go_ret2
 exact⟨rfl,H.below⟩
end
section
open Go.RowKit Go.Shelf Go.Lib
noncomputable def mkE (t:Tr):Int:=by
 classical
 exact if ZcF t then (if (prg t).n<=2048 then 0 else 110) else 2
theorem ZnN {t:Tr}(h:¬ ZcF t):mkE t=2:=by unfold mkE;rw [if_neg h]
theorem Zja {t:Tr}(h:ZcF t)(h2:2048<(prg t).n):mkE t=110:=by unfold mkE;rw [if_pos h,if_neg (by omega)]
theorem mkE_ok {t:Tr}(h:ZcF t)(h2:(prg t).n<=2048):mkE t=0:=by unfold mkE;rw [if_pos h,if_pos h2]
def MakeA (t:Tr)(w:World)(e:Ending)(w':World):Prop:=Below w.heap.size w w'/\∃ a n c,e=.returned (.tuple #[.slice a n c,.int .i64 (mkE t)])/\(mkE t≠0->n=0/\a=none/\c=0)/\(mkE t=0->n=((prg t).put 0 0).length/\RI w' (.slice a n c) ((prg t).put 0 0)/\∀ k,(Value.slice a n c).ownBlock=some k->w.heap.size<=k)
theorem make_all (t:Tr)(P:Nat->Prop)(x:Value)(w:World)(T:TrV w P x t)(hsz:szT t<=4096)(hdp:dpT t<=128):Calls Tryz.prog 29 #[x] w (MakeA t w):=by
 by_cases hf:ZcF t
 ·refine (make_ok t P x w T hf hsz hdp).mono ?_
  rintro e w' ⟨B,⟨hbig,rfl⟩|⟨hsm,v,rfl,R,o⟩⟩
  ·refine⟨B,none,0,0,?_,fun _=>⟨rfl,rfl,rfl⟩,fun h=>?_⟩
   ·rw [Zja hf hbig]
   ·rw [Zja hf hbig] at h;cases h
  ·obtain⟨a,c,rfl⟩:=R.val
   refine⟨B,a,_,c,?_,fun h=>absurd (mkE_ok hf hsm) h,fun _=>⟨rfl,R,o⟩⟩
   rw [mkE_ok hf hsm]
 ·refine (make_no t P x w T hf hsz hdp).mono ?_
  rintro e w' ⟨rfl,B⟩
  refine⟨B,none,0,0,?_,fun _=>⟨rfl,rfl,rfl⟩,fun h=>?_⟩
  ·rw [ZnN hf]
  ·rw [ZnN hf] at h;cases h
end
namespace Q
open Go.RowKit Go.Shelf Go.Lib
shelf_lay Lays.n137 Nm 137 at Tryz as Tryz.laysIX
end Q
namespace Q
open Go.RowKit
set_option maxRecDepth 100000
theorem ZnO {s:ByteArray}{k:Nat}(h:k<s.size):s.data.toList[k]?=some (s[k]'h):=by
 rw [List.getElem?_eq_getElem (show k<s.data.toList.length by rw [Array.length_toList];exact h)]
 rfl
theorem bt_list (s:ByteArray)(k:Nat):bt s k=((s.data.toList.getD k 0).toNat:Int):=by
 unfold bt
 split
 ·rename_i h
  rw [List.getD_eq_getElem?_getD,ZnO h];rfl
 ·rename_i h
  rw [List.getD_eq_getElem?_getD,List.getElem?_eq_none (by rw [Array.length_toList];exact Nat.le_of_not_lt h)];rfl
end Q
namespace G
open Go.RowKit Go.Shelf
attribute [local go_sem] Oper.semAt_some
theorem str_tx (p:ByteArray):∃ l:Tx,p=⟨l.toArray⟩/\l.length=p.size:=by
 refine⟨p.data.toList,?_,by rw [Array.length_toList];rfl⟩
 cases p
 simp
end G
section
open Go.RowKit Go.Shelf
def StOk (c:Cd):Prop:=∀ a m,∀ q ∈ c.put a m,OkS q.s
theorem sq_ok:∀ (l:List Cd),(∀ c ∈ l,StOk c)->∀ a m,∀ q ∈ sqP l a m,OkS q.s
 | [],_,a,m,q,hq=>by rw [List.mem_singleton.1 hq];exact ZaX
 | [c],h,a,m,q,hq=>h c (by simp) a m q hq
 | c::d::r,h,a,m,q,hq=>by
  rcases List.mem_append.1 hq with hq|hq
  ·exact h c (by simp) _ _ q hq
  ·exact sq_ok (d::r) (fun x hx=>h x (by simp [List.mem_cons.1 hx])) _ _ q hq
theorem ch_ok:∀ (l:List Cd),(∀ c ∈ l,StOk c)->∀ a m,∀ q ∈ chP l a m,OkS q.s
 | [],_,a,m,q,hq=>by rw [List.mem_singleton.1 hq];exact ZaX
 | [c],h,a,m,q,hq=>h c (by simp) a m q hq
 | c::d::r,h,a,m,q,hq=>by
  rcases List.mem_cons.1 hq with rfl|hq
  ·exact ZaX
  ·rcases List.mem_append.1 hq with hq|hq
   ·exact h c (by simp) _ _ q hq
   ·exact ch_ok (d::r) (fun x hx=>h x (by simp [List.mem_cons.1 hx])) _ _ q hq
theorem cdN_ok (n:Nd)(hn:OkS n.s)(l:List Cd)(h:∀ c ∈ l,StOk c):StOk (cdN n l):=by
 unfold cdN
 split
 ·intro a m q hq
  rw [List.mem_singleton.1 hq];exact hn
 ·split
  ·have hc:StOk (l.headD (sgl 4 noSet)):=by
    cases l with
    | nil=>intro a m q hq;rw [List.mem_singleton.1 hq];exact ZaX
    | cons c r=>exact h c (by simp)
   generalize l.headD (sgl 4 noSet)=c at hc
   intro a m q hq
   refine sq_ok (rpL c n.mn.toNat n.mx m) (fun x hx=>?_) a m q hq
   unfold rpL at hx
   rcases List.mem_append.1 hx with hx|hx
   ·rw [(List.mem_replicate.1 hx).2];exact hc
   ·split at hx
    ·rw [List.mem_singleton.1 hx]
     intro a m q hq
     rcases List.mem_cons.1 hq with rfl|hq
     ·exact ZaX
     ·exact hc _ _ q hq
    ·rw [(List.mem_replicate.1 hx).2]
     intro a m q hq
     rcases List.mem_cons.1 hq with rfl|hq
     ·exact ZaX
     ·exact hc _ _ q hq
  ·split
   ·exact fun a m q hq=>ch_ok l h a m q hq
   ·exact fun a m q hq=>sq_ok l h a m q hq
theorem fo_ok:∀ f:Fo,G.okF f->∀ c ∈ f.cds,StOk c
 | .nil,_,c,hc=>by cases hc
 | .cons n k r,⟨h1,h2,h3⟩,c,hc=>by
  rcases List.mem_cons.1 hc with rfl|hc
  ·exact cdN_ok n h1 _ (fo_ok k h2)
  ·exact fo_ok r h3 c hc
theorem prg_oks (t:Tr)(h:G.okT t):∀ q ∈ (prg t).put 0 0,OkS q.s:=fun q hq=>by
 rw [Zf4] at hq
 rcases List.mem_append.1 hq with hq|hq
 ·exact cdN_ok t.1 h.1 _ (fo_ok t.2 h.2) _ _ q hq
 ·rw [List.mem_singleton.1 hq];exact ZaX
theorem ZnP {lo hi m:Nat}{z:Int}(h:Tgt (fun _=>False) lo hi m z)(hm:m<=hi):0<=z/\z<=(hi:Int):=by
 rcases h with h|h|h
 ·omega
 ·omega
 ·exact h.elim
theorem prg_go (t:Tr)(hf:ZcF t):GoL ((prg t).put 0 0):=fun q hq=>by
 have hl:=(prg t).len 0 0
 have hN:=Zjn t hf
 rw [hl,prg_n]
 rw [Zf4] at hq
 rcases List.mem_append.1 hq with hq|hq
 ·have:=hN.ops 0 (cdT t).n q hq
  rw [Nat.zero_add] at this
  obtain⟨h1,h2⟩:=this
  have hx2:=ZnP h2 (Nat.le_refl _)
  refine⟨fun _=>by omega,fun h=>?_⟩
  rcases h1 with⟨h3,_⟩|⟨h3,_⟩|⟨_,_,hy⟩
  ·omega
  ·omega
  ·have:=ZnP hy (Nat.le_refl _);omega
 ·rw [List.mem_singleton.1 hq]
  simp
theorem Zjb (t:Tr):((prg t).put 0 0).length=(prg t).n:=(prg t).len 0 0
theorem prg_stn (t:Tr)(hf:ZcF t)(s:List Nat):accS ((prg t).put 0 0) (stn ((prg t).put 0 0) s)↔meT t s:=(stn_acc _ s).trans (prg_acc t hf s)
theorem chkS_0 (t:Tr)(hf:ZcF t)(hn:(prg t).n<=2048)(s:ByteArray)(hs:s.size<=65536):chkS ((prg t).put 0 0) s=0:=by
 unfold chkS
 rw [if_pos (prg_chk t hf hn),if_neg (by omega)]
theorem RI.hs2 {w w':World}{v:Value}{L:List Ins}(h:RI w v L)(hk:∀ k,v.ownBlock=some k->w'.heap[k]?=w.heap[k]?)(hs:w.heap.size<=w'.heap.size):∃ a c,v=.slice a L.length c/\HsI w' (fun k=>k<w'.heap.size) a L:=by
 obtain⟨a,c,e,H⟩:=h.hs
 exact⟨a,c,e,H.kept (fun k hy _=>hk k hy) (fun k hk _=>by omega)⟩
theorem match_T (t:Tr)(hf:ZcF t)(ho:G.okT t)(hn:(prg t).n<=2048)(v:Value)(s:ByteArray)(hs:s.size<=65536)(w:World)(hT:Tab w)(hR:RI w v ((prg t).put 0 0)) :
  Calls Tryz.prog 30 #[v,.string s] w fun e w'=>Below w.heap.size w w'/\∃ x:Bool,e=.returned (.tuple #[.bool x,.int .i64 0])/\(x=true↔meT t (bys s)):=by
 obtain⟨a,c,rfl,H⟩:=hR.hs2 (w':=w) (fun _ _=>rfl) (Nat.le_refl _)
 have hp:=(prg t).pos
 refine (ZnL a c _ s w H hT (prg_go t hf) (prg_oks t ho) (chkS_0 t hf hn s hs) (by rw [Zjb];omega) (by rw [Zjb];exact hn) hs).mono ?_
 rintro e w' ⟨B,x,rfl,hx⟩
 exact⟨B,x,rfl,hx.trans (prg_stn t hf (bys s))⟩
end
namespace G
open Go.RowKit Go.Shelf
attribute [local go_sem] Oper.semAt_some
abbrev toN (s:Tx):List Nat:=s.map UInt8.toNat
def lift (M:Lg):Mg:=fun s=>M (toN s)
theorem ZgF {p:Pt}{M M':Mg}(h:PtS p M')(hm:∀ s,M s->M' s):PtS p M:=by
 cases p with
 | told ts=>exact fun s hs=>h s (hm s hs)
 | ask q=>exact⟨h.1,fun s hs=>h.2 s (hm s hs)⟩
theorem ZnQ {s:Tx}{u v:List Nat}(h:toN s=u++v):∃ a b,s=a++b/\toN a=u/\toN b=v:=by
 obtain⟨a,b,h1,h2,h3⟩:=List.map_eq_append_iff.1 h
 exact⟨a,b,h1,h2,h3⟩
theorem Zke:∀ (Ms:List Lg)(s:Tx),sqM Ms (toN s)->Ziz (Ms.map lift) s
 | [],s,h=>by
  have h2:toN s=[]:=h
  exact List.map_eq_nil_iff.1 h2
 | M::r,s,⟨u,v,e,h1,h2⟩=>by
  obtain⟨a,b,rfl,ha,hb⟩:=ZnQ e
  exact⟨a,b,rfl,by show M (toN a);rw [ha];exact h1,Zke r b (by rw [hb];exact h2)⟩
theorem Zkf (M:Lg):∀ (r:Nat)(s:Tx),ZkB M r (toN s)->powS (lift M) r s
 | 0,s,h=>by
  have h2:toN s=[]:=h
  exact List.map_eq_nil_iff.1 h2
 | r+1,s,⟨u,v,e,h1,h2⟩=>by
  obtain⟨a,b,rfl,ha,hb⟩:=ZnQ e
  exact⟨a,b,rfl,by show M (toN a);rw [ha];exact h1,Zkf M r b (by rw [hb];exact h2)⟩
theorem ZnR {s:S4}{b:Nat}(h:inS s b=true):∀ k,b<k->([UInt8.ofNat b]:Tx) ∈ ZbK s k:=fun k hk=>by
 unfold ZbK
 exact List.mem_map.2 ⟨b,List.mem_filter.2 ⟨by simpa using hk,h⟩,rfl⟩
theorem Zjc (x:S4):PtS (ZcW x) (lift (byM x)):=by
 unfold ZcW
 split
 ·exact⟨ZgA,fun s _=>rfl⟩
 ·rintro s ⟨b,e,hb⟩
  match s,e with
  | [c],e =>
   have e2:c.toNat=b:=by simpa [toN] using e
   have h1:UInt8.ofNat b=c:=by rw [<- e2];exact UInt8.ofNat_toNat
   have:=ZnR hb 256 (by rw [<- e2];exact c.toNat_lt)
   rwa [h1] at this
  | [],e=>simp [toN] at e
  | _::_::_,e=>simp [toN] at e
theorem Zfe:∀ f:Fo,f.fit->PtL (ptF f) (f.mes.map lift)
 | .nil,_=>.nil
 | .cons n k r,⟨h1,h2,h3⟩=>by
  have ihk:=Zfe k h2
  refine .cons ?_ (Zfe r h3)
  obtain⟨f1,f2,f3,f4⟩:=h1
  show PtS (ptN n (ptF k)) (lift (meN n k.mes))
  unfold ptN meN
  rcases f4 with⟨e,_⟩|e|e|e
  ·rw [if_neg (by omega),if_neg (by omega),if_neg (by omega),if_pos e]
   exact Zjc n.s
  ·rw [if_pos e,if_neg (by omega),if_neg (by omega),if_neg (by omega)]
   exact ZgF (ZeN ihk (Ze8 k)) (fun s hs=>Zke _ s hs)
  ·rw [if_neg (by omega),if_pos e,if_neg (by omega),if_neg (by omega),if_pos e]
   refine ZgF (ZeO ihk) ?_
   rintro s ⟨M,hM,hs⟩
   exact⟨lift M,List.mem_map_of_mem hM,hs⟩
  ·rw [if_neg (by omega),if_neg (by omega),if_pos e,if_neg (by omega),if_pos e]
   obtain⟨hl,har⟩:=f2 e
   have har2:(0<=n.mn/\n.mn<=64)/\(n.mx=-1\/n.mn<=n.mx/\n.mx<=64):=by simpa [arT] using har
   have hml:=Fo.mes_len k
   obtain⟨M,hM⟩:∃ M,k.mes=[M]:=by
    match h:k.mes with
    | []=>rw [h] at hml;simp at hml;omega
    | [M]=>exact⟨M,rfl⟩
    | _::_::_=>rw [h] at hml;simp at hml;omega
   rw [hM] at ihk ⊢
   cases hp:ptF k with
   | nil=>rw [hp] at ihk;cases ihk
   | cons p rest =>
    rw [hp] at ihk
    cases ihk with
    | cons hpm _ =>
     refine ZgF (Zfj hpm n.mn n.mx har2.1.1) ?_
     rintro s ⟨r,h1,h2,h3⟩
     exact⟨r,h1,h2,Zkf _ r s h3⟩
theorem ZnS (t:Tr)(h:ZcF t):PtS (ptT t) (lift (meT t)):=by
 have:=Zfe (.cons t.1 t.2 .nil) ⟨h.1,h.2,trivial⟩
 cases this with
 | cons hp _=>exact hp
theorem sound (t:Tr)(h:ZcF t)(s:Tx)(hm:meT t (toN s)):(ptT t).asked.fit (ZaE s)=true:=PtS.asked (ZnS t h) hm
theorem Zff:∀ f:Fo,f.dp<=f.sz
 | .nil=>Nat.le_refl _
 | .cons n k r=>by have:=Zff k;have:=Zff r;simp only [Fo.dp,Fo.sz];omega
theorem dpT_le (t:Tr):dpT t<=szT t:=by have:=Zff t.2;simp only [dpT,szT];omega
section
variable {S:Nat->Prop}{w0 w w':World}{L:List Ent}{ops:Array Oper}{rest:List Oper}{a:Act}{Q:Exit->Act->World->Prop}{dst:Option Nat}{x y:Operand}{ty:TypeId}{pos:String}{after:Array Edge}
theorem wl_al3 (H:St S w0 w L)(h:∀ g w',St S w0 w' ((true,g,3,#[.int .i64 0])::L)->w0.heap.size<=g->w.heap.size<=g->wpList Tryz.prog ops Q rest (a.put dst (.pointer (some ⟨g,0,none⟩))) w'):wpList Tryz.prog ops Q (⟨dst,.alloc 3,ty,pos,after,none⟩::rest) a w :=
 Zc1 3 _ H (fun w=>Zcq _ w) h
end
def SomeR (w:World)(e:Ending)(w':World):Prop:=∃ t u,e=.returned (reV t.1.k t.1.s u t.1.mn t.1.mx)/\TrV w' (fun b=>w.heap.size<=b) (reV t.1.k t.1.s u t.1.mn t.1.mx) t/\u.oneCell'=true/\szT t<=40/\okT t/\Below w.heap.size w w'
set_option maxRecDepth 100000 in
theorem some_any (cs:Array Value)(w:World)(hA:∀ d,ArgR w d cs.toList):Calls Tryz.prog 8 #[.agg cs] w (SomeR w):=by
 obtain⟨k,s,a,n,c,mn,mx,hcs,_⟩:=Zdd (hA 0)
 obtain rfl:cs=reA k s (.slice a n c) mn mx:=by
  apply Array.ext'
  exact hcs
 show Calls Tryz.prog 8 #[reV k s (.slice a n c) mn mx] w _
 have hA1:=Zaa (hA 10)
 clear hA hcs
 have H:=St.start Nope w
 go_enter Tryz.func8,Tryz.ntmps8
 go_wp2_with (first|((with_reducible refine Zar 27 ?_);refine ZaM H rfl ?_;clear H;intro g1 w1 H q1 q2)|((with_reducible refine Zae 27 ?_);refine Zap H ?_;clear H;intro g2 w2 H q3 q4)|((with_reducible refine Zae 3 ?_);refine wl_al3 H ?_;clear H;intro g3 w3 H q5 q6)|((with_reducible refine Zab 3 ?_);refine Zbt 0 0 3 (v:=.int .i64 40) H rfl rfl rfl (by simp) one3 rfl ?_;clear H;intro w4 H)|((with_reducible refine Zac 27 ?_);refine Zas 2 H rfl rfl ?_))
 have H4:St Nope w w4 [(true,g3,3,#[.int .i64 40]),(true,g2,27,reA 0 noSet (.slice none 0 0) 0 0),(true,g1,27,reA k s (.slice a n c) mn mx)]:=H
 have hb4:=H4.below
 have CU:=Zaa (cut_any w g3 q5 10 (by omega) (reA k s (.slice a n c) mn mx).toList 39 w4 hA1.out (by omega) (fun kk hkk=>hb4.block kk hkk) (H4.get 0 rfl))
 refine CU.out.mono ?_
 rintro e w5 ⟨t,u,β',rfl,T,hbx,hs,B5,hoT⟩
 have hu:u.oneCell'=true:=by
  obtain⟨va,vn,vc,hx⟩:=T.val
  simp only [reV,reA,Value.agg.injEq] at hx
  have:=congrArg (fun a=>a[5]?) hx
  simp at this
  rw [this]
  rfl
 have hne:g2≠g3:=fun e=>by have:=H4.nd;simp [e] at this
 have hl2:=H4.lti 1 rfl
 have h2g5:w5.heap[g2]?=some (.cells (reA 0 noSet (.slice none 0 0) 0 0) 27 (0,0)):=(B5.block g2 hl2 hne).trans (H4.get 1 rfl)
 have hst:=Zaa (Zes h2g5 (n':=t.1.k) (s':=t.1.s) (l':=u) (mn':=t.1.mn) (mx':=t.1.mx) hu)
 have h6:=Zaa (setRow_heap w5 g2 _ (reA t.1.k t.1.s u t.1.mn t.1.mx) 27 (0,0) h2g5)
 have B6:But (fun k=>k=g3\/k=g2) w4 (w5.setRow g2 (reA t.1.k t.1.s u t.1.mn t.1.mx)):=(B5.mono (fun k h=>.inl h)).setRow (fun _=>.inr rfl) _
 have bel:=Zaa (hb4.trans (B6.below hb4.size (fun k e=>by rcases e with e|e <;> omega)))
 have T6:=Zaa (T.kept (w':=w5.setRow g2 (reA t.1.k t.1.s u t.1.mn t.1.mx)) (fun b hb hl=>setRow_other _ _ _ _ (fun e=>by have h:w4.heap.size<=b:=hb;omega)))
 have s4:=hb4.size
 clear CU T hbx B5 B6 H H4 h2g5
 go_wp2_with ((with_reducible refine Zab 27 ?_);refine ZaQ 27 (v:=reV t.1.k t.1.s u t.1.mn t.1.mx) rfl rfl hst.out ?_)
 refine bodyPost_ret (Zaf rfl _ _ _ _ rfl (ZaG h6.out)) rfl ?_
 exact⟨t,u,rfl,T6.out.mono (fun b _ hb=>by have h:w4.heap.size<=b:=hb;show w.heap.size<=b;omega),hu,by omega,hoT,bel.out⟩
set_option maxRecDepth 100000 in
theorem from_no (t:Tr)(P:Nat->Prop)(x:Value)(w:World)(T:TrV w P x t)(hf:¬ ZcF t)(hsz:szT t<=4096)(hdp:dpT t<=128) :
  Calls Tryz.prog 10 #[x] w fun e w'=>e=.returned (.tuple #[qV 0 [] nilS,.int .i64 2])/\Below w.heap.size w w':=by
 have H:=St.start Nope w
 have TH:Hid (TrV w P x t):=T
 have CK:=Zaa (fun (w':World) (hb:Below w.heap.size w w')=>Zj7 t P x w' (TH.out.kept (fun b _ hl=>hb.block b hl)) hf hsz hdp)
 obtain⟨va,vn,vc,rfl⟩:=T.val
 clear T hf
 go_enter Tryz.func10,Tryz.ntmps10
 go_wp2_with (first|((with_reducible refine Zar 27 ?_);refine ZaM H rfl ?_;clear H;intro g1 w1 H q1 q2)|((with_reducible refine Zae 30 ?_);refine Zbc H ?_;clear H;intro g2 w2 H q3 q4;have hb2:=H.below)|((with_reducible refine Zac 27 ?_);refine Zas 1 H rfl rfl ?_)|(go_at_call 34;refine (CK.out _ hb2).mono ?_))
 rintro e w3 ⟨rfl,B3⟩
 have H3:=H.call B3 (Nat.le_refl _)
 have h3g:=Zaa (H3.get 0 rfl)
 have h3b:=Zaa H3.below
 clear H B3 CK H3
 go_wp2_with (first|((with_reducible refine Zab 30 ?_);refine ZaQ 30 (v:=qV 0 [] nilS) rfl rfl (ZcB h3g.out rfl) ?_))
 refine bodyPost_ret (ZfP rfl _ _ _ _ rfl (ZaY (setRow_heap _ _ _ _ 30 (0,0) h3g.out))) rfl ?_
 exact⟨rfl,h3b.out.trans ⟨rfl,rfl,rfl,by simp,fun k hk=>setRow_other _ _ _ _ (by omega)⟩⟩
end G
namespace G
open Go.RowKit Go.Shelf
attribute [local go_sem] Oper.semAt_some
theorem bys_eq (s:ByteArray):bys s=s.data.toList.map UInt8.toNat:=by
 apply List.ext_getElem
 ·show (List.map _ (List.range s.size)).length=(List.map _ _).length
  rw [List.length_map,List.length_range,List.length_map,Array.length_toList];rfl
 ·intro i h1 h2
  simp only [bys,List.getElem_map,List.getElem_range]
  rw [Q.bt_list]
  have:i<s.data.toList.length:=by simpa using h2
  simp [List.getD,List.getElem?_eq_getElem this]
theorem Zh0 {w w':World}(hs:w.heap.size<=w'.heap.size)(hb:∀ k,k<w.heap.size->w'.heap[k]?=w.heap[k]?):∀ (d:Nat)(cs:List Value),ArgR w d cs->ArgR w' d cs
 | 0,cs,h=>h
 | d+1,cs,⟨k,s,a,n,c,mn,mx,e,ho,hn,hk⟩=>⟨k,s,a,n,c,mn,mx,e,ho,hn,fun h0=>by
   obtain⟨b,off,ea,hl,h⟩:=hk h0
   refine⟨b,off,ea,by omega,fun i hi=>?_⟩
   obtain⟨cs',h1,h2,h3⟩:=h i hi
   exact⟨cs',h1,fun j u hj=>(World.cell?_of_block (hb b hl)).trans (h2 j u hj),Zh0 hs hb d cs' h3⟩⟩
section
variable {w:World}{ops:Array Oper}{rest:List Oper}{a:Act}{Q:Exit->Act->World->Prop}{dst:Option Nat}{x:Operand}{ty:TypeId}{pos:String}{after:Array Edge}
theorem at_G {op:Op}{gd:Nat × Bool}(h:wpList Tryz.prog ops Q (⟨dst,op,ty,pos,after,some gd⟩::rest) a w):wpList Tryz.prog ops Q (⟨dst,op,ty,pos,after,some gd⟩::rest) a w:=h
theorem Zey {op:Op}{gd:Nat × Bool}(hw:Region.wanted ⟨dst,op,ty,pos,after,some gd⟩ (yielded ops a.tmps)=false)(k:wpList Tryz.prog ops Q rest (a.put dst undef) w):wpList Tryz.prog ops Q (⟨dst,op,ty,pos,after,some gd⟩::rest) a w:=by
 refine wpList_step fun K hK=>?_
 rw [if_neg (by rw [hw];simp)]
 exact hK _ _ k
theorem ZnT (t:TypeId){gd:Nat × Bool}{ad:Addr}{v:Value}(hw:Region.wanted ⟨dst,.load t x,ty,pos,after,some gd⟩ (yielded ops a.tmps)=true)(hx:a.eval x=.pointer (some ad))(hl:(loadVar t ad).run Tryz.prog w=.ok v w)(k:wpList Tryz.prog ops Q rest (a.put dst v) w):wpList Tryz.prog ops Q (⟨dst,.load t x,ty,pos,after,some gd⟩::rest) a w:=by
 refine wpList_step fun K hK=>?_
 rw [if_pos hw]
 unfold Oper.wp
 unfold execOp
 simp only [hx,Instr.loadAt,Instr.sureAddr,Sem.run_bind,Sem.run_pure,Result.andThen_ok,hl]
 exact hK _ _ k
end
set_option maxRecDepth 100000 in
theorem reg5_3 (w:World)(g2:Nat)(s:ByteArray)(rv:Value)(m:Nat)(e2:min (s.size:Int) 30=(m:Int))(e1:(if (30:Int)<(s.size:Int) then (30:Int) else (s.size:Int))=(m:Int))(j0:(m:Int)<=(s.size:Int))(hld:(loadVar 27 ⟨g2,0,none⟩).run Tryz.prog w.drew=.ok rv w.drew)
  (u0 u3 u4 u5 u6 u7 u8 u9 u10 u11 u12 u13 u14 u15 u16 u17 u18 u19 u20 u21 u22 u23 u24 u25 u26 u27 u28 u29 u30 u31 u32 u33 u34 u35 u36 u37 u38 u39 u40 u41 u42 u43 u44 u45 u46 u47 u48 u49 u50 u51 u52 u53 u54 u55 u56 u57 u58 u59 u60 u61 u62 u63 u64 u65 u66 u67 u68 u69 u70 u71 u72 u73 u74 u75 u76 u77 u78:Value) (Q:Exit->Act->World->Prop)
  (h:Calls Tryz.prog 8 #[rv] w.drew fun e w4=>∃ k4 s4 l4 mn4 mx4 w6,e=.returned (reV k4 s4 l4 mn4 mx4)/\(storeVar 27 ⟨g2,0,none⟩ (reV k4 s4 l4 mn4 mx4)).run Tryz.prog w4=.ok () w6/\Q .normal { tmps:=(List.toArray ((u0::.string (s.extract 0 m)::.pointer (some ⟨g2,0,none⟩)::u3::u4::u5::u6::u7::u8::u9::u10::u11::u12::u13::u14::rv::reV k4 s4 l4 mn4 mx4::.string s::.string s::.int .i64 (s.size:Int)::.int .i64 (m:Int)::.string (s.extract 0 m)::u22::u23::u24::u25::u26::u27::u28::u29::u30::u31::u32::u33::u34::u35::u36::u37::u38::u39::u40::u41::u42::u43::u44::u45::u46::u47::u48::u49::u50::u51::u52::u53::u54::u55::u56::u57::u58::u59::u60::u61::u62::u63::u64::u65::u66::u67::u68::u69::u70::u71::u72::u73::u74::u75::u76::u77::u78::[]):List Value)),defers:=[] } w6) :
  (Code.region 3 #[⟨some 15,.load 27 (.tmp 2),27,"law.go:113",#[],none⟩,⟨some 16,.call { callee:=.value (.func 8),args:=#[.tmp 15],argTypes:=#[27] },27,"law.go:113",#[⟨0,.data⟩],none⟩,⟨some 17,.move (.tmp 1),9,"law.go:113",#[],none⟩,⟨some 18,.move (.tmp 1),9,"law.go:113",#[],none⟩,⟨some 19,.call { callee:=.builtin .len,args:=#[.tmp 18],argTypes:=#[9] },3,"law.go:113",#[⟨3,.data⟩],none⟩,⟨some 20,.call { callee:=.builtin .min,args:=#[.tmp 19,.const (.int .i64 30)],argTypes:=#[3,3] },3,"law.go:113",#[⟨4,.data⟩],none⟩,⟨some 21,.slice 9 (.tmp 17) none (some (.tmp 20)) none,9,"law.go:113",#[⟨2,.data⟩,⟨5,.data⟩],none⟩,⟨none,.store 27 (.tmp 2) (.tmp 16),0,"law.go:113",#[⟨1,.data⟩,⟨1,.chain⟩,⟨0,.phase⟩,⟨1,.phase⟩,⟨2,.textOnly .lateStores⟩,⟨3,.textOnly .lateStores⟩,⟨4,.textOnly .lateStoresUnsure⟩,⟨5,.textOnly .lateStoresUnsure⟩,⟨6,.textOnly .lateStoresUnsure⟩],none⟩,⟨some 1,.assign (.tmp 21),9,"law.go:113",#[⟨6,.data⟩,⟨7,.chain⟩,⟨0,.phase⟩,⟨1,.phase⟩,⟨2,.phase⟩,⟨3,.phase⟩,⟨4,.phase⟩,⟨5,.phase⟩,⟨6,.phase⟩,⟨7,.phase⟩],none⟩] true).wp Tryz.prog Q { tmps:=(List.toArray ((u0::.string s::.pointer (some ⟨g2,0,none⟩)::u3::u4::u5::u6::u7::u8::u9::u10::u11::u12::u13::u14::u15::u16::u17::u18::u19::u20::u21::u22::u23::u24::u25::u26::u27::u28::u29::u30::u31::u32::u33::u34::u35::u36::u37::u38::u39::u40::u41::u42::u43::u44::u45::u46::u47::u48::u49::u50::u51::u52::u53::u54::u55::u56::u57::u58::u59::u60::u61::u62::u63::u64::u65::u66::u67::u68::u69::u70::u71::u72::u73::u74::u75::u76::u77::u78::[]):List Value)),defers:=[] } w:=by
 replace hld:=Zaa hld
 replace h:=Zaa h
 refine wp_region_noPanic ?_
 refine wp_region_any (by kernel_rfl) ?_
 change wpAny _ _ _ _ _ _ _ (World.drew w)
 refine wpAny_take (i:=2)  (v:=?_) rfl (by kernel_rfl) (by kernel_rfl) (by kernel_rfl) (fun _ _ _ h=>h) (Or.inl ⟨by rfl,?_⟩) ?_
 rotate_left
 ·intro w'
  go_simp
  try with_reducible rfl
 try simp only [Act.put,PuA]
 refine wpAny_take (i:=3)  (v:=?_) rfl (by kernel_rfl) (by kernel_rfl) (by kernel_rfl) (fun _ _ _ h=>h) (Or.inl ⟨by rfl,?_⟩) ?_
 rotate_left
 ·intro w'
  go_simp
  try with_reducible rfl
 try simp only [Act.put,PuA]
 refine wpAny_take (i:=4)  (v:=?_) rfl (by kernel_rfl) (by kernel_rfl) (by kernel_rfl) (fun _ _ _ h=>h) (Or.inl ⟨by rfl,?_⟩) ?_
 rotate_left
 ·intro w'
  go_simp
  try with_reducible rfl
 try simp only [Act.put,PuA]
 refine wpAny_take (i:=5)  (v:=?_) rfl (by kernel_rfl) (by kernel_rfl) (by kernel_rfl) (fun _ _ _ h=>h) (Or.inl ⟨by rfl,?_⟩) ?_
 rotate_left
 ·intro w'
  go_simp
  try with_reducible rfl
 try simp only [Act.put,PuA]
 refine wpAny_take (i:=6)  (v:=?_) rfl (by kernel_rfl) (by kernel_rfl) (by kernel_rfl) (fun _ _ _ h=>h) (Or.inl ⟨by rfl,?_⟩) ?_
 rotate_left
 ·intro w'
  go_simp
  try with_reducible rfl
 try simp only [Act.put,PuA]
 refine wpAny_ready (rs:=[0]) (by kernel_rfl) (by simp) ?_
 refine (AllReady.cons rfl (fun K0 hK0=>?_) AllReady.nil)
 refine ZdQ (by rfl) (ZgB 27 _ rfl hld.out) ?_
 refine hK0 _ _ ?_
 clear hK0 K0
 try simp only [Act.put,PuA]
 refine wpAny_ready (rs:=[1]) (by kernel_rfl) (by simp) ?_
 refine (AllReady.cons rfl (fun K1 hK1=>?_) AllReady.nil)
 go_simp
 refine h.out.mono ?_
 rintro e w4 ⟨k4,s4,l4,mn4,mx4,w6,rfl,hst,h⟩
 replace h:=Zaa h
 replace hst:=Zaa hst
 refine hK1 _ _ ?_
 clear hK1 K1
 try simp only [Act.put,PuA]
 refine wpAny_ready (rs:=[7]) (by kernel_rfl) (by simp) ?_
 refine (AllReady.cons rfl (fun K7 hK7=>?_) AllReady.nil)
 refine ZfN (by rfl) (stT 27 rfl rfl rfl hst.out) ?_
 refine hK7 _ _ ?_
 clear hK7 K7
 try simp only [Act.put,PuA]
 refine wpAny_take (i:=8)  (v:=?_) rfl (by kernel_rfl) (by kernel_rfl) (by kernel_rfl) (fun _ _ _ h=>h) (Or.inl ⟨by rfl,?_⟩) ?_
 rotate_left
 ·intro w'
  go_simp
  try with_reducible rfl
 try simp only [Act.put,PuA]
 refine wpAny_done (by kernel_rfl) ?_ _
 refine NoPanic.normal ?_
 exact h.out
set_option maxRecDepth 100000 in
theorem soundW (cs:Array Value)(s:ByteArray)(w:World)(hT:Tab w)(hA:∀ d,ArgR w d cs.toList)(ws:s.size<=maxLen) :
  Calls Tryz.prog 5 #[.agg cs,.string s] w fun e w'=>e=.returned (.bool true)/\Below w.heap.size w w':=by
 obtain⟨k,s0,a,n,c,mn,mx,hcs,_⟩:=Zdd (hA 0)
 have hcs2:cs=reA k s0 (.slice a n c) mn mx:=by
  apply Array.ext'
  exact hcs
 obtain⟨m,hm⟩:∃ m,m=min s.size 30:=⟨_,rfl⟩
 have e1:(if (30:Int)<(s.size:Int) then (30:Int) else (s.size:Int))=(m:Int):=by split <;> omega
 have e2:min (s.size:Int) 30=(m:Int):=by omega
 have j0:(m:Int)<=(s.size:Int):=by omega
 have hmm:(s.extract 0 m).size<=30:=by rw [ByteArray.size_extract];omega
 replace hm:=Zaa hm
 have hAh:=Zaa hA
 subst hcs2
 clear hA hcs
 show Calls Tryz.prog 5 #[reV k s0 (.slice a n c) mn mx,.string s] w _
 have H:=St.start Nope w
 have hTh:=Zaa hT
 clear hT ws
 go_enter Tryz.func5,Tryz.ntmps5
 go_wp2_with (first|((with_reducible refine Zar 27 ?_);refine ZaM H rfl ?_;clear H;intro g2 w1 H q1 q2;have hb1:=H.below;have WA:=Zaa (ZnG w1 (hTh.out.below hb1)))|(go_at_call 21;refine WA.out.mono ?_))
 rintro e w2 ⟨rfl,B2⟩
 have H2:=H.call B2 (Nat.le_refl _)
 have hb2:=H2.below
 have T2:=hTh.out.below hb2
 have h2g:=H2.get 0 rfl
 have SM:=some_any (reA k s0 (.slice a n c) mn mx) w2.drew (fun d=>Zh0 (w':=w2.drew) hb2.size (fun kk hk=>hb2.block kk hk) d _ (hAh.out d))
 have H2h:=Zaa H2
 have h2gh:=Zaa h2g
 have hb2h:=Zaa hb2
 have T2h:=Zaa T2
 have hl2:=Zaa (H2.lti 0 rfl)
 clear H B2 WA H2 hb2 T2
 go_wp2
 refine reg5_3 w2 g2 s (reV k s0 (.slice a n c) mn mx) m e2 e1 j0 (ZaG h2gh.out) _ _ _ _ _ _ _ _ _ _ _ _ _ _ _ _ _ _ _ _ _ _ _ _ _ _ _ _ _ _ _ _ _ _ _ _ _ _ _ _ _ _ _ _ _ _ _ _ _ _ _ _ _ _ _ _ _ _ _ _ _ _ _ _ _ _ _ _ _ _ _ _ _ _ _ _ _ _ ?_
 refine SM.mono ?_
 rintro e w4 ⟨t,u,rfl,T4,hu,hsz,ho,B4⟩
 have h4g:w4.heap[g2]?=some (.cells (reA k s0 (.slice a n c) mn mx) 27 (0,0)):=(B4.block g2 hl2.out).trans h2gh.out
 refine⟨_,_,_,_,_,_,rfl,Zes h4g hu,?_⟩
 have H6:St Nope w (w4.setRow g2 (reA t.1.k t.1.s u t.1.mn t.1.mx)) [(true,g2,27,reA t.1.k t.1.s u t.1.mn t.1.mx)]:=(((H2h.out.drew).call B4 (Nat.le_refl _)).setRow 0 rfl (reA t.1.k t.1.s u t.1.mn t.1.mx))
 have T6:=Zaa (T4.kept (w':=w4.setRow g2 (reA t.1.k t.1.s u t.1.mn t.1.mx)) (fun b hb hl=>setRow_other _ _ _ _ (fun e=>by have h:w2.heap.size<=b:=hb;have:=hl2.out;omega)))
 obtain⟨w6,hw6⟩:∃ w6,w4.setRow g2 (reA t.1.k t.1.s u t.1.mn t.1.mx)=w6:=⟨_,rfl⟩
 rw [hw6] at H6 T6 ⊢
 have hb6:=Zaa H6.below
 have Tb6:=Zaa (hTh.out.below hb6.out)
 have hH6:=Zaa H6
 generalize s.extract 0 m=p at *
 clear hw6 h4g T4 B4 SM H6 h2g
 have hdp:=dpT_le t
 have MA:=Zaa (fun (w':World) (hb:Below w6.heap.size w6 w')=>make_all t _ _ w' (T6.out.kept (fun b _ hl=>hb.block b hl)) (by omega) (by omega))
 have H6':=hH6.out
 go_wp2_with (first|((with_reducible refine Zac 27 ?_);refine Zas 0 H6' rfl rfl ?_)|(go_at_call 29;refine (MA.out _ (Below.refl _ _)).mono ?_))
 rintro e w7 ⟨B7,a7,n7,c7,rfl,hm1,hm2⟩
 have H7:=H6'.call B7 (Nat.le_refl _)
 have hb7:=Zaa H7.below
 have B7h:=Zaa B7
 replace hm1:=Zaa hm1
 replace hm2:=Zaa hm2
 clear H6' MA
 by_cases hf:ZcF t
 ·have FR:=Zaa (Zj8 t _ _ w7 (T6.out.kept (fun b _ hl=>B7.block b hl)) hf ho (by omega) (by omega))
  have hmk:mkE t=0\/mkE t=110:=by
   by_cases h:(prg t).n<=2048
   ·exact .inl (by unfold mkE;rw [if_pos hf,if_pos h])
   ·exact .inr (Zja hf (by omega))
  have hfh:=Zaa hf
  clear B7
  go_wp2_with (first|((with_reducible refine Zac 27 ?_);refine Zas 0 H7 rfl rfl ?_)|(go_at_call 10;refine FR.out.mono ?_))
  rintro e w8 ⟨z,rfl,hqv,B8⟩
  have H8:=H7.call B8 (Nat.le_refl _)
  obtain⟨q,hq⟩:∃ q,q=(ptT t).asked:=⟨_,rfl⟩
  rw [<- hq] at hqv
  have hqz:q.sz<=900000:=by
   have h1:=ptT_w t
   have h2:=(ZkZ (ptT t)).1.1
   rw [hq]
   omega
  have hso:∀ sx:Tx,meT t (toN sx)->q.fit (ZaE sx)=true:=fun sx h=>by rw [hq];exact sound t hf sx h
  obtain⟨xa,xm,xc,rfl⟩:=hqv.slice
  have hqh:=Zaa hqv
  have b8:=Zaa H8.below
  have s78:=Zaa B8.size
  have R8:=Zaa (fun (w':World) (hb:Below w7.heap.size w7 w') (h0:mkE t=0)=>(hm2.out h0))
  have B8h:=Zaa B8
  have H9:=St.start Nope w8
  replace hq:=Zaa hq
  replace hso:=Zaa hso
  clear H7 FR hqv B8 H8
  have CK:=Zaa (fun (w':World) (hb:Below w8.heap.size w8 w')=>ZhO q (fun b=>w7.heap.size<=b) _ w' (hqh.out.kept (fun b _ hl=>hb.block b hl)) hqz)
  rcases hmk with hmk|hmk
  ·obtain⟨hn7,hR7,_⟩:=hm2.out hmk
   have hn7h:=Zaa hn7
   have hR7h:=Zaa hR7
   clear hn7 hR7
   have hmk2:=Zaa hmk
   rw [hmk]
   by_cases h300:300<n7
   ·have i3:(300:Int)<(n7:Int):=by omega
    have hd3:decide ((300:Int)<(n7:Int))=true:=decide_eq_true i3
    go_wp2_with (first|((with_reducible refine Zae 30 ?_);refine Zbc H9 ?_;clear H9;intro g5 w9 H9 q3 q4)|((with_reducible refine Zab 30 ?_);refine ZbY 0 H9 rfl rfl rfl rfl ?_;clear H9;intro w10 H9;have b10:=Zaa (b8.out.trans (H9.below.mono b8.out.size)))|((with_reducible refine at_G ?_);refine Zey rfl ?_))
    go_ret
    exact⟨rfl,b10.out⟩
   ·have i3:¬ (300:Int)<(n7:Int):=by omega
    have hd3:decide ((300:Int)<(n7:Int))=false:=decide_eq_false i3
    go_wp2_with (first|((with_reducible refine Zae 30 ?_);refine Zbc H9 ?_;clear H9;intro g5 w9 H9 q3 q4)|((with_reducible refine Zab 30 ?_);refine ZbY 0 H9 rfl rfl rfl rfl ?_;clear H9;intro w10 H9;have hb10:=H9.below)|((with_reducible refine at_G ?_);first|(refine Zey rfl ?_)|(refine ZnT 30 (by first|rfl|(simp only [hd3];rfl)) rfl (ZaY (H9.get 0 rfl)) ?_))|(go_at_call 17;refine (CK.out _ hb10).mono ?_))
    rintro e w11 ⟨r,rfl,hr,B11⟩
    have H11:=H9.call B11 (Nat.le_refl _)
    have b11:=Zaa (b8.out.trans (H11.below.mono b8.out.size))
    have hb11:=Zaa H11.below
    rcases hr with⟨hyes,rfl⟩|⟨hno,rfl⟩
    ·have MT:=Zaa (fun (w':World) (hb:Below w7.heap.size w7 w') (hT':Tab w')=>match_T t hfh.out ho (by
       have h1:=Zjb t
       have:=hn7h.out
       omega) (.slice a7 n7 c7) p (by omega) w' hT' ⟨hR7h.out.1,by
        rcases hR7h.out.2 with h|⟨g,cap,cur,e,h1,h2,h3⟩
        ·exact .inl h
        ·exact .inr ⟨g,cap,cur,e,h1,(hb.block g (Array.getElem?_eq_some_iff.1 h2).1).trans h2,h3⟩⟩)
     have b711:=Zaa (B8h.out.trans (hb11.out.mono B8h.out.size))
     have T11:=Zaa (hTh.out.below b11.out)
     clear H9 CK B11
     go_wp2_with (go_at_call 30;refine (MT.out _ b711.out T11.out).mono ?_)
     rintro e w12 ⟨B12,x,rfl,hx⟩
     have H12:=H11.call B12 (Nat.le_refl _)
     have hb12:=Zaa H12.below
     obtain⟨l,rfl,hll⟩:=str_tx p
     have hl30:l.length<=1000000:=by omega
     replace hll:=Zaa hll
     have FI:=Zaa (fun (w':World) (hb:Below w8.heap.size w8 w')=>Znm q hyes.2 (fun b=>w7.heap.size<=b) _ l hl30 w' (hqh.out.kept (fun b _ hl=>hb.block b hl)))
     have hmean:x=true->q.fit (ZaE l)=true:=fun h=>hso.out l (by
      have h1:=hx.1 h
      rw [bys_eq] at h1
      exact h1)
     have hyc:=hyes.1
     clear H11 MT B12
     go_wp2_with (first|((with_reducible refine Zac 30 ?_);refine Zcd 0 H12 rfl rfl ?_)|(go_at_call 22;refine (FI.out _ hb12.out).mono ?_))
     rintro e w13 ⟨bb,r,rfl,hr,B13⟩
     obtain⟨rfl,hbb⟩:r=0/\bb=q.fit (ZaE l):=by
      rcases hr with⟨_,e1,e2⟩|⟨e1,_⟩
      ·exact⟨e1,e2⟩
      ·exact absurd hyc e1
     have b13:=Zaa (b8.out.trans ((hb12.out.trans (B13.mono hb12.out.size)).mono b8.out.size))
     have hbx:x=true->bb=true:=fun h=>hbb.trans (hmean h)
     clear H12 FI B13 hr hmean hx hbb hyc
     cases x with
     | false =>
      cases bb with
      | false=>clear hbx;go_wp2;go_ret;exact⟨rfl,b13.out⟩
      | true=>clear hbx;go_wp2;go_ret;exact⟨rfl,b13.out⟩
     | true =>
      obtain rfl:bb=true:=hbx rfl
      clear hbx
      go_wp2
      go_ret
      exact⟨rfl,b13.out⟩
    ·clear H9 CK B11 H11 hno
     go_wp2
     go_ret
     exact⟨rfl,b11.out⟩
  ·rw [hmk]
   go_wp2_with (first|((with_reducible refine Zae 30 ?_);refine Zbc H9 ?_;clear H9;intro g5 w9 H9 q3 q4)|((with_reducible refine Zab 30 ?_);refine ZbY 0 H9 rfl rfl rfl rfl ?_;clear H9;intro w10 H9;have b10:=Zaa (b8.out.trans (H9.below.mono b8.out.size)))|((with_reducible refine at_G ?_);refine Zey rfl ?_))
   go_ret
   exact⟨rfl,b10.out⟩
 ·have FR:=Zaa (from_no t _ _ w7 (T6.out.kept (fun b _ hl=>B7.block b hl)) hf (by omega) (by omega))
  rw [ZnN hf]
  clear B7
  go_wp2_with (first|((with_reducible refine Zac 27 ?_);refine Zas 0 H7 rfl rfl ?_)|(go_at_call 10;refine FR.out.mono ?_))
  rintro e w8 ⟨rfl,B8⟩
  have H8:=H7.call B8 (Nat.le_refl _)
  have b8:=Zaa H8.below
  have H9:=St.start Nope w8
  clear H7 FR B8 H8
  go_wp2_with (first|((with_reducible refine Zae 30 ?_);refine Zbc H9 ?_;clear H9;intro g5 w9 H9 q3 q4)|((with_reducible refine Zab 30 ?_);refine ZbY 0 H9 rfl rfl rfl rfl ?_;clear H9;intro w10 H9;have b10:=Zaa (b8.out.trans (H9.below.mono b8.out.size)))|((with_reducible refine at_G ?_);refine Zey rfl ?_))
  go_ret
  exact⟨rfl,b10.out⟩
end G
end Go.Proofs.YtnffbmipllhjdaaGreatDoor
