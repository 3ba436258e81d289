/- GramSound, part 6. -/
import Derived.Test.YtnffbmipllhjdaaGreatDoorXZ5
import Derived.RangeFuncNested
import Derived.Test.YtnffbmipllhjdaaGreatDoorXZ4
import Derived.Sort.EncStr
import Derived.Maps.OwnIn
set_option linter.all false
set_option maxHeartbeats 8000000
namespace Go.Proofs.YtnffbmipllhjdaaGreatDoor
section
open Go.RowKit Go.Shelf
attribute [local go_sem] Oper.semAt_some
def chkI (L:List Ins):Int:=if L.length=0\/2048<L.length then 110 else if L.all (fun i=>Zk8 i L.length)=true then 0 else 110
theorem one30:∀ w,(sizeOf 34).run Tryz.prog w=.ok 1 w:=fun w=>by kernel_rfl
theorem ld30 {w:World}{ad:Addr}{v:Value}(h:w.cell? ad=some v):(loadVar 34 ad).run Tryz.prog w=.ok v w:=by
 have ha:∀ w,(isAgg 34).run Tryz.prog w=.ok false w:=fun w=>by kernel_rfl
 simp [loadVar,ha,go_sem,h]
theorem run_st30 {w:World}{g:Nat}{u:Value}{v:Int}(h:w.heap[g]?=some (.cells #[u] 34 (0,0))):(storeVar 34 ⟨g,0,none⟩ (.int .i64 v)).run Tryz.prog w=.ok () (w.setCell ⟨g,0,none⟩ (.int .i64 v)):=by
 have hc:=Zal h 0 (v:=u) rfl
 have hf:=frozen_of_row w g 0 _ 34 h
 have e:(storeCells ⟨g,0,none⟩ [.int .i64 v]).run Tryz.prog w=.ok () (w.setCell ⟨g,0,none⟩ (.int .i64 v)):=by simp [storeCells,go_sem,stored,hc,hf]
 have e4:(Value.int .i64 v).cells=#[.int .i64 v]:=rfl
 unfold storeVar
 simp only [Sem.run_bind,one30,Result.andThen_ok,e4]
 simpa using e
section
variable {S:Nat->Prop}{w0:World}{L:List Ent}{F:Fence}{n:Nat}{w w':World}{ops:Array Oper}{rest:List Oper}{a:Act}{Q:Exit->Act->World->Prop}{dst:Option Nat}{x y:Operand}{ty:TypeId}{pos:String}{after:Array Edge}
theorem Zbz (hF:∀ f,F.fn f){g:Nat}{u:Value}{v:Int}(hg:w.heap[g]?=some (.cells #[u] 34 (0,0)))(hx:a.eval x=.pointer (some ⟨g,0,none⟩))(hy:a.eval y=.int .i64 v)(h:∀ w',w'.heap[g]?=some (.cells #[.int .i64 v] 34 (0,0))->But (fun k=>k=g) w w'->wpListIn F n Tryz.prog ops Q rest a w'):wpListIn F n Tryz.prog ops Q (⟨none,.store 34 x y,ty,pos,after,none⟩::rest) a w:=by
 refine Za4 (w':=w.setCell ⟨g,0,none⟩ (.int .i64 v)) hF (fun c=>nofun) ?_ (h _ ?_ ?_)
 ·unfold execOp
  simp only [hx,hy,Instr.storeAt,Instr.sureAddr,Sem.run_bind,Sem.run_pure,Result.andThen_ok,run_st30 hg]
 ·exact heap_setCell_same w g 0 _ 34 _ hg
 ·exact⟨rfl,rfl,rfl,by simp [World.setCell],fun k hk hn=>Below.heap_setCell w ⟨g,0,none⟩ _ k hn⟩
theorem ZeP (hF:∀ f,F.fn f)(H:St S w0 w L){ad:Option Addr}{m c:Nat}(hx:a.eval x=.slice ad m c)(h:∀ g w',St S w0 w' ((true,g,72,#[.slice ad m c])::L)->w0.heap.size<=g->wpListIn F n Tryz.prog ops Q rest (a.put dst (.pointer (some ⟨g,0,none⟩))) w'):wpListIn F n Tryz.prog ops Q (⟨dst,.box 72 x,ty,pos,after,none⟩::rest) a w:=by
 have e:(execOp a.eval ⟨dst,.box 72 x,ty,pos,after,none⟩).run Tryz.prog w=.ok (.value (.pointer (some ⟨w.heap.size,0,none⟩))) (w.alloc (.cells #[.slice ad m c] 72)):=by
  unfold execOp
  simp only [hx]
  kernel_rfl
 exact ZaF hF (fun c=>nofun) e (h _ _ (H.alloc 72 _) H.but.size)
theorem Zds (hF:∀ f,F.fn f)(H:St S w0 w L)(h:∀ g w',St S w0 w' ((true,g,34,#[.int .i64 0])::L)->w0.heap.size<=g->wpListIn F n Tryz.prog ops Q rest (a.put dst (.pointer (some ⟨g,0,none⟩))) w'):wpListIn F n Tryz.prog ops Q (⟨dst,.alloc 34,ty,pos,after,none⟩::rest) a w:=by
 have e:(execOp a.eval ⟨dst,.alloc 34,ty,pos,after,none⟩).run Tryz.prog w=.ok (.value (.pointer (some ⟨w.heap.size,0,none⟩))) (w.alloc (.cells #[.int .i64 0] 34)):=by
  unfold execOp
  kernel_rfl
 exact ZaF hF (fun c=>nofun) e (h _ _ (H.alloc 34 _) H.but.size)
theorem atI_newF {d:Nat}{ty2:TypeId}{pos2:String}{after2:Array Edge}(h:wpListIn F n Tryz.prog ops Q (⟨some d,.alloc 228,ty,pos,after,none⟩::⟨none,.store 228 (.tmp d) y,ty2,pos2,after2,none⟩::rest) a w):wpListIn F n Tryz.prog ops Q (⟨some d,.alloc 228,ty,pos,after,none⟩::⟨none,.store 228 (.tmp d) y,ty2,pos2,after2,none⟩::rest) a w:=h
theorem wlI_newF {d:Nat}{ty2:TypeId}{pos2:String}{after2:Array Edge}(hF:∀ f,F.fn f){f:Fm}(hd:∀ u,(a.put (some d) u).eval (.tmp d)=u)(hy:∀ u,(a.put (some d) u).eval y=fmV f)(h:∀ g w',w'.heap[g]?=some (.cells (fmA f) 228 (0,0))->Below w.heap.size w w'->w.heap.size<=g->wpListIn F n Tryz.prog ops Q rest (a.put (some d) (.pointer (some ⟨g,0,none⟩))) w'):wpListIn F n Tryz.prog ops Q (⟨some d,.alloc 228,ty,pos,after,none⟩::⟨none,.store 228 (.tmp d) y,ty2,pos2,after2,none⟩::rest) a w:=by
 have e0:(execOp a.eval ⟨some d,.alloc 228,ty,pos,after,none⟩).run Tryz.prog w=.ok (.value (.pointer (some ⟨w.heap.size,0,none⟩))) (w.alloc (.cells (fmA ⟨⟨#[]⟩,false,0⟩) 228)):=by
  unfold execOp
  kernel_rfl
 refine ZaF hF (fun c=>nofun) e0 ?_
 have hg:=heap_alloc_new w (.cells (fmA ⟨⟨#[]⟩,false,0⟩) 228)
 have e:(storeVar 228 ⟨w.heap.size,0,none⟩ (fmV f)).run Tryz.prog (w.alloc (.cells (fmA ⟨⟨#[]⟩,false,0⟩) 228))=.ok () ((w.alloc (.cells (fmA ⟨⟨#[]⟩,false,0⟩) 228)).setRow w.heap.size (fmA f)):=run_storeVar_row _ _ 228 228 _ _ hg sizeF rfl (by have h2:∀ k n,(Value.int k n).oneCell'=true:=fun _ _=>rfl;have h3:∀ s,(Value.string s).oneCell'=true:=fun _=>rfl;have h4:∀ s,(Value.bool s).oneCell'=true:=fun _=>rfl;simp [fmA,h2,h3,h4])
 refine Za4 (w':=(w.alloc (.cells (fmA ⟨⟨#[]⟩,false,0⟩) 228)).setRow w.heap.size (fmA f)) hF (fun c=>nofun) ?_ (h _ _ (setRow_heap _ _ _ _ 228 (0,0) hg) ?_ (Nat.le_refl _))
 ·unfold execOp
  simp only [hd,hy,Instr.storeAt,Instr.sureAddr,Sem.run_bind,Sem.run_pure,Result.andThen_ok,e]
 ·refine⟨rfl,rfl,rfl,by simp,fun k hk=>?_⟩
  rw [setRow_other _ _ _ _ (by omega)]
  exact Below.heap_alloc _ _ _ hk
end
structure CkI (w0:World) (g1 g2:Nat) (v:Value) (e:Int) (W:World):Prop where
 b1:W.heap[g1]?=some (.cells #[v] 72 (0,0))
 b2:W.heap[g2]?=some (.cells #[.int .i64 e] 34 (0,0))
 bel:Below w0.heap.size w0 W
theorem CkI.own {w0:World}{g1 g2 B:Nat}{v:Value}{e:Int}{W W':World}{row:Option Nat}(h:CkI w0 g1 g2 v e W)(hB:w0.heap.size<=B)(hg:W.grownBy W' row)(hr:∀ r,row=some r->B<=r/\∃ o:Obj,W.heap[r]?=some o/\o.isCells=false):CkI w0 g1 g2 v e W':=by
 have ne:∀ g xs t,W.heap[g]?=some (.cells xs t (0,0))->some g≠row:=fun g xs t h e=>by
  obtain⟨_,o,ho,hc⟩:=hr g e.symm
  rw [h] at ho
  cases ho
  cases hc
 refine⟨(hg.block g1 (Array.getElem?_eq_some_iff.1 h.b1).1 (ne _ _ _ h.b1)).trans h.b1,(hg.block g2 (Array.getElem?_eq_some_iff.1 h.b2).1 (ne _ _ _ h.b2)).trans h.b2,h.bel.grown hg h.bel.size (fun k e=>by have:=(hr k e).1;omega)⟩
theorem CkI.below {w0:World}{g1 g2:Nat}{v:Value}{e:Int}{W W':World}(h:CkI w0 g1 g2 v e W)(hb:Below W.heap.size W W'):CkI w0 g1 g2 v e W' :=
 ⟨(hb.block g1 (Array.getElem?_eq_some_iff.1 h.b1).1).trans h.b1,(hb.block g2 (Array.getElem?_eq_some_iff.1 h.b2).1).trans h.b2,h.bel.trans (hb.mono h.bel.size)⟩
set_option maxRecDepth 100000 in
theorem chk_in (n:Nat)(hn:3<=n)(ad:Option Addr)(c:Nat)(L:List Ins)(w:World)(hL:HsI w (fun k=>k<w.heap.size) ad L) :
  CallsIn Fence.wide n Tryz.prog 109 #[.slice ad L.length c] w fun e w'=>e=.returned (.int .i64 (chkI L))/\Below w.heap.size w w':=by
 have H:=St.start Nope w
 unfold chkI
 by_cases hz:L.length=0\/2048<L.length
 ·rw [if_pos hz]
  refine callsIn_of_wp_marks Tryz.func109 rfl trivial ?_ rfl
  simp only [Tryz.ntmps109,List.size_toArray,List.length_cons,List.length_nil,Nat.reduceAdd,Nat.reduceSub,Array.replicate_succ,Array.replicate_zero,List.push_toArray,List.append_toArray,List.nil_append,List.cons_append]
  replace hL:=Zaa hL
  rcases hz with h0|h0
  ·rw [h0]
   gi_wp2_with (first|((with_reducible refine Zbh 72 ?_);refine ZeP Zad H rfl ?_;clear H;intro g1 w1 H q1)|((with_reducible refine ZaO 34 ?_);refine Zds Zad H ?_;clear H;intro g2 w2 H q2;have c1:=H.cell 1 0 rfl (v:=.slice ad 0 c) rfl)|((with_reducible refine Zay 34 ?_);refine Zbz Zad (H.get 0 rfl) rfl rfl ?_;intro w3 hr3 B3))
   refine⟨_,Zaf rfl _ _ g2 (.int .i64 110) rfl (ld30 (Zal hr3 0 rfl)),?_⟩
   exact⟨rfl,H.below.trans (B3.below H.below.size (fun k h=>by omega))⟩
  ·have i0:((L.length:Int) == 0)=false:=beq_eq_false_iff_ne.2 (by omega)
   have i1:(2048:Int)<(L.length:Int):=by omega
   gi_wp2_with (first|((with_reducible refine Zbh 72 ?_);refine ZeP Zad H rfl ?_;clear H;intro g1 w1 H q1)|((with_reducible refine ZaO 34 ?_);refine Zds Zad H ?_;clear H;intro g2 w2 H q2;have c1:=H.cell 1 0 rfl (v:=.slice ad L.length c) rfl)|((with_reducible refine Zay 34 ?_);refine Zbz Zad (H.get 0 rfl) rfl rfl ?_;intro w3 hr3 B3))
   refine⟨_,Zaf rfl _ _ g2 (.int .i64 110) rfl (ld30 (Zal hr3 0 rfl)),?_⟩
   exact⟨rfl,H.below.trans (B3.below H.below.size (fun k h=>by omega))⟩
 ·rw [if_neg hz]
  generalize hres:(if (L.all fun i=>Zk8 i L.length)=true then (0:Int) else 110)=res
  replace hres:=Zaa hres
  have hz1:0<L.length/\L.length<=2048:=by omega
  have i0:((L.length:Int) == 0)=false:=beq_eq_false_iff_ne.2 (by omega)
  have i1:¬ ((2048:Int)<(L.length:Int)):=by omega
  replace hz:=Zaa hz
  replace hL:=Zaa hL
  refine callsIn_of_wp_marks Tryz.func109 rfl trivial ?_ rfl
  simp only [Tryz.ntmps109,List.size_toArray,List.length_cons,List.length_nil,Nat.reduceAdd,Nat.reduceSub,Array.replicate_succ,Array.replicate_zero,List.push_toArray,List.append_toArray,List.nil_append,List.cons_append]
  gi_wp2_with (first|((with_reducible refine Zbh 72 ?_);refine ZeP Zad H rfl ?_;clear H;intro g1 w1 H q1)|((with_reducible refine ZaO 34 ?_);refine Zds Zad H ?_;clear H;intro g2 w2 H q2;have c1:=H.cell 1 0 rfl (v:=.slice ad L.length c) rfl))
  have hl1:=H.lti 1 rfl
  have hl2:=H.lti 0 rfl
  refine⟨trivial,fun h=>(by cases h),(Zl1 _ _ _ _ _).mono ?_⟩
  rintro e w5 ⟨gB,rfl,hbB,B5,hgB⟩
  replace H:=H.call B5 (Nat.le_refl _)
  have hb5:=H.below
  have hs5:=hb5.size
  have h15:=H.get 1 rfl
  have h25:=H.get 0 rfl
  have hl15:=H.lti 1 rfl
  have hl25:=H.lti 0 rfl
  have hlB:=(Array.getElem?_eq_some_iff.1 hbB).1
  have hst:=Zhc (Pr:=fun _=>True) w5.heap.size (fun k=>k=g2) (fun k=>k<w.heap.size) (n - 1) gB ad c L w5 hbB (hL.out.kept (fun k _ hl=>hb5.block k hl) (fun k _ h=>h)) (fun k hk=>⟨by omega,by omega⟩) (by omega) (by omega) (fun _ _=>trivial) (by omega)
  have I0:CkI w g1 g2 (.slice ad L.length c) 0 w5:=⟨h15,h25,hb5⟩
  have hne:Hid (g1≠g2):=fun e=>by have:=H.nd;simp [e] at this
  clear H c1
  gi_wp2
  refine wpIn_rangeFunc_ownH rfl (by omega) (gf:=208) (lb:=#[.pointer (some ⟨gB,0,none⟩)]) rfl (Zad 208) (enters_of Tryz.func208 (by kernel_rfl) rfl)
   hst (fun h k=>h.trans k) (fun W l o o' hl ho hc _=>⟨by simp [World.putObj],fun k hk hlt hX=>(grownBy_putObj' W l o').block k hlt (fun h=>by cases h;omega)⟩) (Below.refl _ w5) (fun _=>rfl)
   (fun pre W=>CkI w g1 g2 (.slice ad L.length c) 0 W/\∀ x ∈ pre,Zk8 x.1 L.length=true)
   (fun cc pre W=>cc=.ret/\CkI w g1 g2 (.slice ad L.length c) 110 W/\∃ x ∈ pre,Zk8 x.1 L.length=false)
   (fun pre W W' row hs hg hr=>⟨hs.1.own hs5 hg hr,hs.2⟩)
   (fun cc pre W W' row hs hg hr=>⟨hs.1,hs.2.1.own hs5 hg hr,hs.2.2⟩)
   ⟨I0,fun x hx=>(List.not_mem_nil hx).elim⟩
   (fun x a' W=>∃ g5 g6 u6 u7 u8 u10 u11 u12,a'={ tmps:=#[.slice ad L.length c,.pointer (some ⟨g1,0,none⟩),.pointer (some ⟨g2,0,none⟩),.pointer (some ⟨g5,0,none⟩),.pointer (some ⟨g6,0,none⟩),.slice ad L.length c,u6,u7,u8,.slice ad L.length c,u10,u11,u12,.slice ad L.length c,.func (.func 208) #[] #[.pointer (some ⟨gB,0,none⟩)],fmV (fm x.1.op),ZdB x.1,undef,undef,undef,undef,undef,undef],defers:=[] }/\W.heap[g5]?=some (.cells (fmA (fm x.1.op)) 228 (0,0))/\W.heap[g6]?=some (.cells (Zcf x.1) 182 (0,0)))
   (fun x a' _ W W' row hs hg hr=>?ax) ?assign ?body ?done ?stop
  case ax =>
   obtain⟨g5,g6,u6,u7,u8,u10,u11,u12,e1,e2,e3⟩:=hs
   have ne:∀ g xs t,W.heap[g]?=some (.cells xs t (0,0))->some g≠row:=fun g xs t h e=>by
    obtain⟨_,o,ho,hc⟩:=hr g e.symm
    rw [h] at ho
    cases ho
    cases hc
   exact⟨g5,g6,u6,u7,u8,u10,u11,u12,e1,(hg.block g5 (Array.getElem?_eq_some_iff.1 e2).1 (ne _ _ _ e2)).trans e2,(hg.block g6 (Array.getElem?_eq_some_iff.1 e3).1 (ne _ _ _ e3)).trans e3⟩
  case assign =>
   intro l pre x W K hi hK
   simp only [encI,List.zip_toArray,List.zip_cons_cons,List.zip_nil_left,List.zip_nil_right,List.foldl_toArray,List.foldl_cons,List.foldl_nil,List.setIfInBounds_toArray,List.set_cons_zero,List.set_cons_succ]
   replace hK:=Zaa hK
   replace hi:=Zaa hi
   gi_wp2_with (first|((with_reducible refine atI_newF ?_);refine wlI_newF (f:=fm x.1.op) (Zan l) (fun _=>rfl) (fun _=>rfl) ?_;intro g5 w8 hb8 B8 hg8;replace hb8:=Zaa hb8;replace B8:=Zaa B8)|((with_reducible refine ZjA ?_);refine Zjz (i:=x.1) (Zan l) (fun _=>rfl) (fun _=>rfl) ?_;intro g6 w9 hb9 B9 hg9;replace hb9:=Zaa hb9;replace B9:=Zaa B9))
   have B89:Below W.heap.size W w9:=B8.out.trans (B9.out.mono B8.out.size)
   have hb89:=(B9.out.block g5 (Array.getElem?_eq_some_iff.1 hb8.out).1).trans hb8.out
   exact hK.out _ w9 (Za7 (Zbu B89 (Nat.le_refl _) (fun _=>False)) (fun k h=>h.elim)) (KO.below B89 (Nat.le_refl _)) ⟨hi.out.1.below B89,hi.out.2⟩ ⟨g5,g6,_,_,_,_,_,_,rfl,hb89,hb9.out⟩
  case body =>
   rintro l pre x a' W hl ⟨r,hr⟩ ⟨hi,hall⟩ ⟨g5,g6,u6,u7,u8,u10,u11,u12,rfl,e5,e6⟩ hlt
   have cN:=Zal hi.b1 0 (v:=.slice ad L.length c) rfl
   have FI:=Zaa (fitI_any x.1 L.length W)
   replace hall:=Zaa hall
   have hiH:=Zaa hi
   replace hr:=Zaa hr
   replace e5:=Zaa e5
   replace e6:=Zaa e6
   clear hi
   gi_wp2_with (first|((with_reducible refine Zah 228 ?_);refine Zai 228 (Zan l) rfl (Zku e5.out) ?_)|((with_reducible refine Zah 182 ?_);refine Zai 182 (Zan l) rfl (loadI e6.out) ?_)|((with_reducible refine Zah 72 ?_);refine Zai 72 (Zan l) rfl (ld29 cN) ?_))
   refine⟨trivial,fun h=>(by cases h),(callsIn_wide.2 FI.out).mono ?_⟩
   rintro e w9 ⟨rfl,B9⟩
   have hi9:=Zaa (hiH.out.below B9)
   cases hfit:Zk8 x.1 L.length with
   | true =>
    replace hfit:=Zaa hfit
    replace B9:=Zaa B9
    gi_wp2
    refine⟨Za7 (Zbu B9.out (Nat.le_refl _) (fun _=>False)) (fun k h=>h.elim),KO.below B9.out (Nat.le_refl _),hi9.out,fun y hy=>?_⟩
    rcases List.mem_append.1 hy with h|h
    ·exact hall.out y h
    ·rw [List.mem_singleton.1 h];exact hfit.out
   | false =>
    replace hfit:=Zaa hfit
    replace B9:=Zaa B9
    gi_wp2_with (first|((with_reducible refine Zay 34 ?_);refine Zbz (Zan l) hi9.out.b2 rfl rfl ?_;intro w7 hn7 B7;replace hn7:=Zaa hn7;replace B7:=Zaa B7))
    have hb1:=hi9.out.b1
    have hs9:=hi9.out.bel.size
    have hl9:=(Array.getElem?_eq_some_iff.1 hb1).1
    have hl92:=(Array.getElem?_eq_some_iff.1 hi9.out.b2).1
    have BB:But (fun k=>k=g2) W w7:=(Zbu B9.out (Nat.le_refl _) (fun k=>k=g2)).trans B7.out (fun i _ h=>h)
    refine⟨Za7 BB (fun k h=>.inl (by omega)),rfl,⟨(B7.out.block g1 hl9 hne.out).trans hb1,hn7.out,hi9.out.bel.trans (B7.out.below hs9 (fun k h=>by omega))⟩,x,by simp,hfit.out⟩
  case done =>
   rintro D xs W hD hS ⟨hI,hall⟩ hK
   have hr:=Zaa hI.b2
   have hbe:=Zaa hI.bel
   replace hK:=Zaa hK
   have hall2:res=0:=by
    rw [<- hres.out,if_pos]
    rw [List.all_eq_true]
    intro i hi
    rw [<- hS] at hi
    obtain⟨x,hx,rfl⟩:=List.mem_map.1 hi
    exact hall x hx
   have hl92:=(Array.getElem?_eq_some_iff.1 hI.b2).1
   clear hI hall hS
   gi_wp2_with (first|((with_reducible refine Zay 34 ?_);refine Zbz Zad hr.out rfl rfl ?_;intro w7 hn7 B7;replace hn7:=Zaa hn7;replace B7:=Zaa B7))
   have hlD:=(Array.getElem?_eq_some_iff.1 hK.out).1
   have hK7:w7.heap[D]?=some (.deferred (some [])):=(B7.out.block D hlD (fun e=>by omega)).trans hK.out
   have B77:=grownBy_putObj' w7 D (.deferred none)
   have hn9:(w7.putObj D (.deferred none)).heap[g2]?=some (.cells #[.int .i64 0] 34 (0,0)):=(B77.block g2 (by have:=B7.out.size;omega) (fun e=>by cases e;omega)).trans hn7.out
   refine⟨by simp,.inl ⟨_,_,rfl,run_takeDeferred hK7,?_⟩⟩
   refine⟨_,Zaf rfl _ _ g2 (.int .i64 0) rfl (ld30 (Zal hn9 0 rfl)),?_,?_⟩
   ·rw [hall2]
   ·exact (hbe.out.trans (B7.out.below (by have:=hbe.out.size;omega) (fun k e=>by omega))).grown B77 (by have:=hbe.out.size;have:=B7.out.size;omega) (fun k e=>by cases e;omega)
  case stop =>
   rintro D cc pre W hD hpre ⟨rfl,hI,x,hx,hbad⟩ hK
   have hall2:res=110:=by
    rw [<- hres.out,if_neg]
    intro h
    rw [List.all_eq_true] at h
    have:=h x.1 (hpre.subset (List.mem_map.2 ⟨x,hx,rfl⟩))
    rw [hbad] at this
    cases this
   have hl92:=(Array.getElem?_eq_some_iff.1 hI.b2).1
   have hIH:=Zaa hI
   replace hK:=Zaa hK
   clear hI
   gi_wp2
   have B77:=grownBy_putObj' W D (.deferred none)
   have hn9:(W.putObj D (.deferred none)).heap[g2]?=some (.cells #[.int .i64 110] 34 (0,0)):=(B77.block g2 hl92 (fun e=>by cases e;omega)).trans hIH.out.b2
   refine⟨by simp,.inl ⟨_,_,rfl,run_takeDeferred hK.out,?_⟩⟩
   refine⟨_,Zaf rfl _ _ g2 (.int .i64 110) rfl (ld30 (Zal hn9 0 rfl)),?_,?_⟩
   ·rw [hall2]
   ·exact hIH.out.bel.grown B77 hIH.out.bel.size (fun k e=>by cases e;omega)
theorem chk_any (ad:Option Addr)(c:Nat)(L:List Ins)(w:World)(hL:HsI w (fun k=>k<w.heap.size) ad L):Calls Tryz.prog 109 #[.slice ad L.length c] w fun e w'=>e=.returned (.int .i64 (chkI L))/\Below w.heap.size w w':=callsIn_wide.1 (chk_in 5 (by omega) ad c L w hL)
end
section
open Go.RowKit Go.Shelf
attribute [local go_sem] Oper.semAt_some
def Zgn (q:List Nat):List Int:=q.map (fun k:Nat=>(k:Int))
theorem ints_app (p q:List Nat):Zgn (p++q)=Zgn p++Zgn q:=by simp [Zgn]
theorem ZjL (q:List Nat):(Zgn q).length=q.length:=by simp [Zgn]
theorem ZmC {W:List Nat}(h:OkW W){z:Nat}(hi:inW W z=true):Zgj W z=W:=by
 have hl:=inW_lt h hi
 have hb:(W.getD (z / 64) 0 ||| 2 ^ (z % 64))=W.getD (z / 64) 0:=by
  apply Nat.eq_of_testBit_eq
  intro j
  rw [Nat.testBit_or,Nat.testBit_two_pow]
  by_cases e:z % 64=j
  ·subst e
   have:(W.getD (z / 64) 0).testBit (z % 64)=true:=hi
   rw [this];simp
  ·simp [e]
 unfold Zgj
 rw [hb]
 have hk:z / 64<W.length:=by rw [h.len];omega
 apply List.ext_getElem?
 intro k
 rw [List.getElem?_set]
 by_cases e:z / 64=k
 ·subst e
  rw [if_pos rfl,if_pos hk,List.getD_eq_getElem?_getD,List.getElem?_eq_getElem hk]
  rfl
 ·rw [if_neg e]
structure LI (w0:World) (g g6:Nat) (t:TypeId) (pre:Array Value) (L:List Ins) (W0:List Nat) (num:Nat) (ds:List Nat) (m:Nat) (w:World):Prop where
 ex:∃ W q,SI w0 g g6 t pre (fun _=>True) W (Zgn q) w/\SdI L W0 W q num/\msr W q=m
 nd:ds.Nodup
 mks:∀ D ∈ ds,w0.heap.size<=D/\w.heap[D]?=some (.deferred (some []))
theorem mk_ne {w:World}{D k:Nat}{cs:Array Value}{t:TypeId}(h:w.heap[D]?=some (.deferred (some [])))(h2:w.heap[k]?=some (.cells cs t (0,0))):D≠k:=fun e=>by
 rw [e,h2] at h
 cases h
set_option maxRecDepth 100000 in
theorem ZjM (n:Nat)(h3:3<=n)(ad:Option Addr)(c:Nat)(L:List Ins)(num g:Nat)(pre:Array Value)(t:TypeId)(W0:List Nat)(w:World)(hL:HsI w (fun k=>k<w.heap.size/\k≠g) ad L)(hG:GoL L)(hlen:L.length<=2048)(hn:num<L.length)(hW:OkW W0)(hc:Clsd L (snW W0))(hg:w.heap[g]?=some (.cells (pA pre W0) t (0,0))) :
  CallsIn Fence.wide n Tryz.prog 110 #[.slice ad L.length c,.pointer (some ⟨g,pre.size,none⟩),.int .i64 (num:Int)] w fun e w'=>(∃ v,e=.returned v)/\But (fun k=>k=g) w w'/\∃ W,OkW W/\(∀ m,inW W m=true↔inW W0 m=true\/Eps L num m)/\w'.heap[g]?=some (.cells (pA pre W) t (0,0)):=by
 have hgl:=(Array.getElem?_eq_some_iff.1 hg).1
 replace hL:=Zaa hL
 replace hG:=Zaa hG
 replace hW:=Zaa hW
 replace hc:=Zaa hc
 replace hg:=Zaa hg
 replace hn:=Zaa hn
 refine callsIn_of_wp_marks Tryz.func110 rfl trivial ?_ rfl
 simp only [Tryz.ntmps110,List.size_toArray,List.length_cons,List.length_nil,Nat.reduceAdd,Nat.reduceSub,Array.replicate_succ,Array.replicate_zero,List.push_toArray,List.append_toArray,List.nil_append,List.cons_append]
 gi_wp2_with (first|((with_reducible refine ZmA ?_);refine ZmB Zad rfl (fun _ _=>rfl) (fun _ _=>rfl) ?_;intro gr g6 w1 q6 qr B1 n1 n2 n3;replace q6:=Zaa q6;replace qr:=Zaa qr;replace B1:=Zaa B1))
 have S1:SI w g g6 t pre (fun _=>True) W0 (Zgn [num]) w1:=⟨⟨B1.out.os,B1.out.tape,B1.out.output,B1.out.size,fun k hk _=>B1.out.block k hk⟩,(B1.out.block g hgl).trans hg.out,hgl,n2,gr,_,_,q6.out,qr.out,⟨0,1,rfl,by simp,by simp [Zgn],fun i z hi=>by
  match i with
  | 0=>simp [Zgn] at hi;subst hi;rfl
  | i+1=>simp [Zgn] at hi⟩,n1,n3,trivial⟩
 have LI1:LI w g g6 t pre L W0 num [] (msr W0 [num]) w1:=⟨⟨W0,[num],S1,SdI.start hW.out hn.out,rfl⟩,List.nodup_nil,fun D hD=>by cases hD⟩
 clear S1 q6 qr B1 n1 n3
 refine ZkC (fun m a w'=>∃ (ds:List Nat) (u2 u7 u8 u9 u10 u11 u12 u13 u14 u15 u16 u17 u18 u19 u20 u21 u22 u23 u24 u25 u26 u27 u28 u29 u30 u31 u32 u33 u34 u35 u36:Value),a={ tmps:=#[.slice ad L.length c,.pointer (some ⟨g,pre.size,none⟩),u2,undef,undef,undef,.pointer (some ⟨g6,0,none⟩),u7,u8,u9,u10,u11,u12,u13,u14,u15,u16,u17,u18,u19,u20,u21,u22,u23,u24,u25,u26,u27,u28,u29,u30,u31,u32,u33,u34,u35,u36],defers:=marks ds }/\LI w g g6 t pre L W0 num ds m w') (m0:=msr W0 [num]) ⟨[],_,_,_,_,_,_,_,_,_,_,_,_,_,_,_,_,_,_,_,_,_,_,_,_,_,_,_,_,_,_,_,rfl,LI1⟩ ?_
 clear LI1
 rintro m a wr ⟨ds,u2,u7,u8,u9,u10,u11,u12,u13,u14,u15,u16,u17,u18,u19,u20,u21,u22,u23,u24,u25,u26,u27,u28,u29,u30,u31,u32,u33,u34,u35,u36,rfl,⟨W,q,hS,hD,rfl⟩,hnd,hmk⟩
 rcases List.eq_nil_or_concat q with rfl|⟨q',z,rfl⟩
 ·obtain⟨gr,cur,v,e1,e2,e3,e4,e5,e6⟩:=hS.row
  obtain⟨o,cc,rfl⟩:=QuP.empty e3
  have c6:=Zal e1 0 (v:=.slice (some ⟨gr,o,none⟩) 0 cc) rfl
  replace e1:=Zaa e1
  replace e2:=Zaa e2
  replace e3:=Zaa e3
  replace hS:=Zaa hS
  replace hD:=Zaa hD
  replace hmk:=Zaa hmk
  replace hnd:=Zaa hnd
  gi_wp2_with (first|((with_reducible refine Zah 230 ?_);refine Zai 230 Zad rfl (ld60 c6) ?_))
  refine Zef ds wr hnd.out (fun D hD=>(hmk.out D hD).2) (fun w' s1 s2 s3 s4 s5=>?_)
  refine⟨_,results_none rfl _ _ _,⟨_,rfl⟩,?_,W,hD.out.ok,hD.out.fin hc.out,?_⟩
  ·have hb:=hS.out.but
   exact⟨s2.trans hb.os,s3.trans hb.tape,s4.trans hb.output,Nat.le_trans hb.size s1,fun k hk hkg=>(s5 k (fun hkd=>by have:=(hmk.out k hkd).1;omega)).trans (hb.block k hk hkg)⟩
  ·exact (s5 g (fun hkd=>by have:=(hmk.out g hkd).1;omega)).trans hS.out.set
 ·rw [List.concat_eq_append] at hS hD ⊢
  have hzl:=hD.qlt z (by simp)
  have hz2:z<2048:=by omega
  have hql:=hD.room
  simp only [List.length_append,List.length_cons,List.length_nil] at hql
  obtain⟨gr,cur,v,e1,e2,e3,e4,e5,e6⟩:=hS.row
  rw [ints_app] at e3
  obtain⟨o,cc,rfl,f1,f2,f3⟩:=QuP.last e3
  have hil:=ZjL q'
  obtain⟨mm,hmm⟩:∃ mm,mm=q'.length:=⟨_,rfl⟩
  obtain⟨ln,hln⟩:∃ ln,ln=mm+1:=⟨_,rfl⟩
  rw [hil,<- hmm] at f1 f2 f3
  rw [hil,<- hmm,<- hln] at e1
  have cz:wr.cell? ⟨gr,o+mm,none⟩=some (.int .i64 (z:Int)):=by rw [cell_of_row wr gr _ _ 3 (0,0) e2];exact f1
  have c6:=Zal e1 0 (v:=.slice (some ⟨gr,o,none⟩) ln cc) rfl
  have i0:(0:Int)<(ln:Int):=by omega
  have i1:(ln:Int) - 1=(mm:Int):=by omega
  have hS3:SI w g g6 t pre (fun _=>True) W (Zgn q') (wr.drew.setCell ⟨g6,0,none⟩ (.slice (some ⟨gr,o,none⟩) mm cc)):=hS.drew.box (fun gr2 cur2 v2 x1 x2 x3=>by
   have y1:wr.heap[g6]?=some (.cells #[v2] 230 (0,0)):=x1
   rw [e1] at y1
   obtain⟨o2,c2,e,_⟩:=x3.ex
   cases y1
   cases e
   have y2:wr.heap[gr]?=some (.cells cur2 3 (0,0)):=x2
   rw [e2] at y2
   cases y2
   exact f3)
  have hmk3:∀ D ∈ ds,w.heap.size<=D/\(wr.drew.setCell ⟨g6,0,none⟩ (.slice (some ⟨gr,o,none⟩) mm cc)).heap[D]?=some (.deferred (some [])):=fun D hD=>⟨(hmk D hD).1,(Below.heap_setCell wr.drew ⟨g6,0,none⟩ _ D (mk_ne (hmk D hD).2 e1)).trans (hmk D hD).2⟩
  have hcz:=cz
  replace hD:=Zaa hD
  replace e1:=Zaa e1
  replace e2:=Zaa e2
  replace e3:=Zaa e3
  replace f1:=Zaa f1
  replace f3:=Zaa f3
  replace hS:=Zaa hS
  replace hmk:=Zaa hmk
  replace hnd:=Zaa hnd
  replace hS3:=Zaa hS3
  replace hmk3:=Zaa hmk3
  replace hmm:=Zaa hmm
  replace hln:=Zaa hln
  replace hil:=Zaa hil
  have hmb:mm<=5000:=by rw [hmm.out];omega
  gi_wp2_with (first|((with_reducible refine Zah 230 ?_);refine Zai 230 Zad rfl (ld60 c6) ?_))
  refine reg51_3 _ (marks ds) wr gr g6 o mm cc (z:Int) (by omega) ln hln.out f2 e1.out cz _ _ _ _ _ _ _ _ _ _ _ _ _ _ _ _ _ _ _ _ _ _ _ _ _ _ _ _ _ _ _ _ _ _ _ _ ?_
  clear c6 cz hcz hS hmk e1 e2
  generalize wr.drew.setCell ⟨g6,0,none⟩ (.slice (some ⟨gr,o,none⟩) mm cc)=w3 at hS3 hmk3 ⊢
  gi_wp2
  refine⟨trivial,fun h=>(by cases h),(callsIn_wide.2 (add_any g pre t W z hD.out.ok hz2 w3 hS3.out.set)).mono ?_⟩
  rintro e w4 ⟨rfl,hset4,hb4⟩
  have hS4:Hid (SI w g g6 t pre (fun _=>True) (Zgj W z) (Zgn q') w4):=hS3.out.turn hb4 hset4
  have hmk4:Hid (∀ D ∈ ds,w.heap.size<=D/\w4.heap[D]?=some (.deferred (some []))):=fun D hD=>⟨(hmk3.out D hD).1,(hb4.block D (Array.getElem?_eq_some_iff.1 (hmk3.out D hD).2).1 (by have:=(hmk3.out D hD).1;omega)).trans (hmk3.out D hD).2⟩
  clear hset4 hb4
  cases hin:inW W z with
  | true =>
   have hsame:=ZmC hD.out.ok hin
   have hD5:=Zaa (hD.out.old hin)
   have hM5:=Zaa (msr_old W q' z)
   replace hin:=Zaa hin
   gi_wp2
   refine⟨_,hM5.out,ds,_,_,_,_,_,_,_,_,_,_,_,_,_,_,_,_,_,_,_,_,_,_,_,_,_,_,_,_,_,_,_,rfl,⟨W,q',by rw [<- hsame];exact hS4.out,hD5.out,rfl⟩,hnd.out,hmk4.out⟩
  | false =>
   obtain⟨xi,hxi⟩:∃ xi,L[z]?=some xi:=⟨_,List.getElem?_eq_getElem hzl.1⟩
   have hD5:=Zaa (hD.out.new hin hlen hG.out hxi)
   have hM5:=Zaa (msr_new hD.out.ok hz2 hin q' xi)
   have hxy:=hG.out xi (List.mem_of_getElem? hxi)
   obtain⟨b,off,cur0,t0,fr0,hadr,⟨hbl,hbg⟩,hbb,hcells⟩:∃ b off cur t fr,ad=some ⟨b,off,none⟩/\(b<w.heap.size/\b≠g)/\w.heap[b]?=some (.cells cur t fr)/\∀ k i,L[k]?=some i->∀ j u,(Zcf i)[j]?=some u->cur[off+k * 7+j]?=some u:=by
    rcases hL.out with h|h
    ·rw [h] at hxi;simp at hxi
    ·exact h
   subst hadr
   have i4:(z:Int)<(L.length:Int):=by omega
   obtain⟨gr5,hS5,k1,k2,k3,k4⟩:=hS4.out.at
   have hs4:=hS4.out.but.size
   have hb4:=(hS4.out.but.block b hbl hbg).trans hbb
   have hI4:∀ j u,(Zcf xi)[j]?=some u->w4.cell? ⟨b,off+z * 7+j,none⟩=some u:=fun j u hj=>by
    rw [cell_of_row w4 b _ _ t0 fr0 hb4];exact hcells z xi hxi j u hj
   have h64:g6<w4.heap.size:=by obtain⟨_,_,_,y,_⟩:=hS4.out.row;exact (Array.getElem?_eq_some_iff.1 y).1
   have hmlt:Hid (∀ D ∈ ds,D<w4.heap.size):=fun D hD=>(Array.getElem?_eq_some_iff.1 (hmk4.out D hD).2).1
   replace hin:=Zaa hin
   replace hxi:=Zaa hxi
   replace hxy:=Zaa hxy
   replace hbb:=Zaa hbb
   replace hcells:=Zaa hcells
   replace hI4:=Zaa hI4
   replace hS5:=Zaa hS5
   replace k4:=Zaa k4
   replace hb4:=Zaa hb4
   gi_wp2
   refine⟨trivial,fun h=>(by cases h),(Zmy _ _ _).mono ?_⟩
   rintro e w5 ⟨gB,rfl,hbB,B5,hgB⟩
   have hs5:=B5.size
   have hlB:=(Array.getElem?_eq_some_iff.1 hbB).1
   have hst:=Zhu w5.heap.size (fun k=>k=g6\/k=gr5\/w5.heap.size<=k) (n - 1) gB b (off+z * 7) xi w5 hbB (fun j u hj=>by
    have:=hI4.out j u hj
    exact (World.cell?_of_block (B5.block b (by omega))).trans this) ⟨by omega,by omega⟩ ⟨by omega,by omega⟩ (fun h=>(hxy.out.1 (by omega)).1) (fun h=>(hxy.out.2 h).1)
   have I0:SI w g g6 t pre (fun k=>k=gr5\/w5.heap.size<=k) (Zgj W z) (Zgn (q'++[])) w5/\∀ D ∈ ds,w5.heap[D]?=some (.deferred (some [])):=⟨by rw [List.append_nil];exact (hS5.out.mono (fun k _ h=>.inl h)).below B5,fun D hD=>(B5.block D (hmlt.out D hD)).trans (hmk4.out D hD).2⟩
   replace B5:=Zaa B5
   replace hbB:=Zaa hbB
   gi_wp2
   refine wpIn_rangeFunc_ownH rfl (by omega) (gf:=210) (lb:=#[.pointer (some ⟨gB,0,none⟩)]) rfl (Zad 210) (enters_of Tryz.func210 (by kernel_rfl) rfl)
    hst (fun h k=>h.trans k) (fun W l o o' hl ho hc _=>⟨by simp [World.putObj],fun k hk hlt hX=>(grownBy_putObj' W l o').block k hlt (fun h=>by cases h;omega)⟩) (Below.refl _ w5) (fun _=>rfl)
    (fun pr Wd=>SI w g g6 t pre (fun k=>k=gr5\/w5.heap.size<=k) (Zgj W z) (Zgn (q'++pr)) Wd/\∀ D ∈ ds,Wd.heap[D]?=some (.deferred (some [])))
    (fun _ _ _=>False)
    (fun pr Wd Wd' row hs hg' hr=>⟨hs.1.own (by omega) hg' hr,fun D hD=>(hg'.block D (Array.getElem?_eq_some_iff.1 (hs.2 D hD)).1 (fun e=>by have:=(hr D e.symm).1;have:=hmlt.out D hD;omega)).trans (hs.2 D hD)⟩)
    (fun _ _ _ _ _ hs _ _=>hs) I0
    (fun x a' Wd=>∃ (u0 u1 u2 u3 u4 u5 u7 u9 u10 u11 u12 u13 u14 u15 u16 u17 u18 u19 u20 u21 u22 u23 u24 u25 u26 u27 u28 u29 u30 u31 u32 u33 u34 u35 u36:Value),a'={ tmps:=#[u0,u1,u2,u3,u4,u5,.pointer (some ⟨g6,0,none⟩),u7,.int .i64 (x:Int),u9,u10,u11,u12,u13,u14,u15,u16,u17,u18,u19,u20,u21,u22,u23,u24,u25,u26,u27,u28,u29,u30,u31,u32,u33,u34,u35,u36],defers:=[] })
    (fun x a' _ Wd Wd' row hs hg' hr=>hs) ?assign ?body ?done ?stop
   case assign =>
    intro l pr x Wd K hi hK
    simp only [encO,List.zip_toArray,List.zip_cons_cons,List.zip_nil_left,List.zip_nil_right,List.foldl_toArray,List.foldl_cons,List.foldl_nil,List.setIfInBounds_toArray,List.set_cons_zero,List.set_cons_succ]
    replace hK:=Zaa hK
    replace hi:=Zaa hi
    gi_wp2
    exact hK.out _ Wd ⟨Nat.le_refl _,fun _ _ _ h _=>h⟩ (KO.refl _ _ _) hi.out ⟨_,_,_,_,_,_,_,_,_,_,_,_,_,_,_,_,_,_,_,_,_,_,_,_,_,_,_,_,_,_,_,_,_,_,_,rfl⟩
   case body =>
    rintro l pr x a' Wd hl ⟨r,hr⟩ ⟨hs,hm⟩ ⟨u0,u1,u2,u3,u4,u5,u7,u9,u10,u11,u12,u13,u14,u15,u16,u17,u18,u19,u20,u21,u22,u23,u24,u25,u26,u27,u28,u29,u30,u31,u32,u33,u34,u35,u36,rfl⟩ hlt
    obtain⟨v,v',wx,e6,hrun,e6',hone,hs',hb'⟩:=hs.push (fun k hk=>.inr (by have:=(Array.getElem?_eq_some_iff.1 hr).1;omega)) (by rw [ZjL];simp;omega) (x:Int) 230
    have c6:=Zal e6 0 (v:=v) rfl
    have hmx:∀ D ∈ ds,(wx.setCell ⟨g6,0,none⟩ v').heap[D]?=some (.deferred (some [])):=fun D hD=>(hb'.block D (Array.getElem?_eq_some_iff.1 (hm D hD)).1 (fun h=>by
     rcases h with h|⟨_,cur,h⟩
     ·exact mk_ne (hm D hD) e6 h
     ·rw [hm D hD] at h;cases h)).trans (hm D hD)
    have hKF:KeepsFrom w5.heap.size Wd (wx.setCell ⟨g6,0,none⟩ v'):=⟨hb'.size,fun k o hk ho hcs=>(hb'.block k (Array.getElem?_eq_some_iff.1 ho).1 (fun h=>by
     rcases h with h|⟨_,cur,h⟩
     ·rw [h,e6] at ho;cases ho;cases hcs
     ·rw [ho] at h;cases h;cases hcs)).trans ho⟩
    have hKO:KO w5.heap.size (fun k=>k=g6\/k=gr5\/w5.heap.size<=k) Wd (wx.setCell ⟨g6,0,none⟩ v'):=⟨hb'.size,fun k hk hl hX=>hb'.block k hl (fun h=>hX (by
     rcases h with h|⟨h,_⟩
     ·exact .inl h
     ·exact .inr h))⟩
    have hs2:SI w g g6 t pre (fun k=>k=gr5\/w5.heap.size<=k) (Zgj W z) (Zgn (q'++(pr++[x]))) (wx.setCell ⟨g6,0,none⟩ v'):=by
     have:=hs'
     rw [show Zgn (q'++pr)++[(x:Int)]=Zgn (q'++(pr++[x])) by simp [Zgn]] at this
     exact this
    replace hs:=Zaa hs
    replace hs':=Zaa hs'
    replace hb':=Zaa hb'
    replace hr:=Zaa hr
    replace hm:=Zaa hm
    replace e6:=Zaa e6
    gi_wp2_with (first|((with_reducible refine Zah 230 ?_);refine Zai 230 (Zan l) rfl (ld60 c6) ?_)|((with_reducible refine atI_push ?_);refine wlI_push (Zan l) hrun e6' hone rfl (fun _=>rfl) (fun _=>rfl) (fun _ _=>rfl) (fun _ _=>rfl) ?_;intro u0))
    exact⟨hKF,hKO,hs2,hmx⟩
   case done =>
    rintro D xs Wd hD hSx ⟨hs,hm⟩ hK
    subst hSx
    replace hs:=Zaa hs
    replace hm:=Zaa hm
    replace hK:=Zaa hK
    gi_wp2
    refine⟨_,hM5.out,D::ds,_,_,_,_,_,_,_,_,_,_,_,_,_,_,_,_,_,_,_,_,_,_,_,_,_,_,_,_,_,_,_,rfl,⟨Zgj W z,q'++onw xi,hs.out.mono (fun _ _ _=>trivial),hD5.out,rfl⟩,List.nodup_cons.2 ⟨fun h=>by have:=hmlt.out D h;omega,hnd.out⟩,fun E hE=>?_⟩
    rcases List.mem_cons.1 hE with rfl|hE
    ·exact⟨by omega,hK.out⟩
    ·exact⟨(hmk4.out E hE).1,hm.out E hE⟩
   case stop=>rintro D cc2 pr Wd hD hSx h;exact h.elim
end
section
open Go.RowKit Go.Shelf
set_option maxRecDepth 100000 in
theorem ZmD (s:S4)(hs:OkS s)(b:Nat)(hb:b<256)(w:World):Calls Tryz.prog 134 #[Zbf s,.int .u8 (b:Int)] w fun e w'=>e=.returned (.bool (inS s b))/\Below w.heap.size w w':=by
 have H:=St.start Nope w
 obtain⟨q,hq⟩:∃ q,q=b / 64:=⟨_,rfl⟩
 obtain⟨r,hr⟩:∃ r,r=b % 64:=⟨_,rfl⟩
 have hq4:q<4:=by omega
 have hr64:r<64:=by omega
 have e1:(b:Int) / 64=(q:Int):=by omega
 have e2:(b:Int) % 64=(r:Int):=by omega
 have e3:(b:Int).tdiv 64=(q:Int):=by rw [Int.tdiv_eq_ediv_of_nonneg (by omega)];omega
 have e4:(b:Int).tmod 64=(r:Int):=by rw [Int.tmod_eq_emod_of_nonneg (by omega)];omega
 have u1:IntKind.u8.wrap (q:Int)=(q:Int):=by simp [IntKind.wrap,IntKind.signed,IntKind.bits];omega
 have u2:IntKind.u8.wrap (r:Int)=(r:Int):=by simp [IntKind.wrap,IntKind.signed,IntKind.bits];omega
 have i1:(q:Int)<4:=by omega
 obtain⟨p1,p2⟩:=hs q hq4
 obtain⟨z,hz⟩:∃ z:Nat,s.get q=(z:Int):=⟨(s.get q).toNat,by omega⟩
 have e6:((z:Int) / 2 ^ r)=((z / 2 ^ r:Nat):Int):=by push_cast;rfl
 have hy:z / 2 ^ r<18446744073709551616:=Nat.lt_of_le_of_lt (Nat.div_le_self _ _) (by omega)
 have hand:=ZiH (z / 2 ^ r) 1 hy (by decide)
 generalize z / 2 ^ r=y at e6 hy hand
 have hres:Hid ((inS s b)=((y % 2:Nat) == 1)):=by
  show _=_
  unfold inS
  rw [<- hq,<- hr,hz,e6,Int.tmod_eq_emod_of_nonneg (by omega),Bool.eq_iff_iff,beq_iff_eq,beq_iff_eq]
  omega
 generalize hin:inS s b=res at hres
 replace hin:=Zaa hin
 replace hq:=Zaa hq
 replace hr:=Zaa hr
 replace e6:=Zaa e6
 replace hz:=Zaa hz
 replace hs:=Zaa hs
 replace hand:=Zaa hand
 clear p1 p2
 go_enter Tryz.func134,Tryz.ntmps134
 go_wp2_with (first|((with_reducible refine Zar 24 ?_);refine Zel H rfl ?_;clear H;intro g w1 H p1 p2;have c0:=H.cell 0 q rfl (v:=.int .u64 (s.get q)) (by rcases (show q=0\/q=1\/q=2\/q=3 by omega) with rfl|rfl|rfl|rfl <;> rfl)))
 go_ret
 refine⟨?_,H.below⟩
 rw [hres.out]
 refine congrArg Ending.returned ?_
 try rw [hz.out]
 try rw [e6.out]
 have h2:bits BinOp.and IntKind.u64 (y:Int) 1=((y % 2:Nat):Int):=by have:=hand.out;rwa [Nat.and_one_is_mod] at this
 refine congrArg Value.bool ?_
 rw [h2,Bool.eq_iff_iff,beq_iff_eq,beq_iff_eq]
 omega
def Rn (w:World)(g:Nat)(ad:Option Addr)(n c:Nat)(W:List Nat):Prop:=w.heap[g]?=some (.cells (pA #[.slice ad n c] W) 174 (0,0))
theorem Rn.l {w:World}{g:Nat}{ad:Option Addr}{n c:Nat}{W:List Nat}(h:Rn w g ad n c W):w.cell? ⟨g,0,none⟩=some (.slice ad n c):=by
 rw [cell_of_row w g _ _ 174 (0,0) h]
 unfold pA
 rw [Array.getElem?_append_left (by simp)]
 rfl
theorem Rn.kept {w w':World}{g:Nat}{ad:Option Addr}{n c:Nat}{W:List Nat}(h:Rn w g ad n c W)(e:w'.heap[g]?=w.heap[g]?):Rn w' g ad n c W:=e.trans h
theorem Rn.lt {w:World}{g:Nat}{ad:Option Addr}{n c:Nat}{W:List Nat}(h:Rn w g ad n c W):g<w.heap.size:=(Array.getElem?_eq_some_iff.1 h).1
theorem Zd3 (g:Nat)(ad:Option Addr)(n c:Nat)(hn:0<n)(w:World)(hl:w.cell? ⟨g,0,none⟩=some (.slice ad n c)):Calls Tryz.prog 111 #[.pointer (some ⟨g,0,none⟩)] w fun e w'=>e=.returned (.bool true)/\w'=w:=by
 have i1:(0:Int)<(n:Int):=by omega
 go_enter Tryz.func111,Tryz.ntmps111
 go_wp2_with fail
 go_ret
 exact⟨rfl,rfl⟩
theorem dead_any (g:Nat)(ad:Option Addr)(n c:Nat)(hn:0<n)(W:List Nat)(hW:OkW W)(w:World)(h:Rn w g ad n c W):Calls Tryz.prog 113 #[.pointer (some ⟨g,0,none⟩)] w fun e w'=>e=.returned (.bool (decide (W=noW)))/\w'=w:=by
 have H1:=Zaa (Zd3 g ad n c hn w h.l)
 have H2:Hid (Calls Tryz.prog 168 #[.pointer (some ⟨g,1,none⟩)] w fun e w'=>e=.returned (.bool (decide (W=noW)))/\w'=w):=ZiJ g #[.slice ad n c] 174 W hW w h
 generalize decide (W=noW)=b at *
 go_enter Tryz.func113,Tryz.ntmps113
 go_wp2_with fail
 refine H1.out.mono ?_
 rintro e w1 ⟨rfl,rfl⟩
 go_wp2_with fail
 refine H2.out.mono ?_
 rintro e w1 ⟨rfl,rfl⟩
 go_wp2_with fail
 go_ret
 exact⟨rfl,rfl⟩
theorem Zhv (w:World)(ev:Operand->Value)(x:Operand)(dst:Option Nat)(ty:TypeId)(pos:String)(after:Array Edge){ad:Option Addr}{n c:Nat}(hx:ev x=.slice ad n c):(execOp ev ⟨dst,.build 174 #[(0,x)],ty,pos,after,none⟩).run Tryz.prog w=.ok (.value (.agg (pA #[.slice ad n c] noW))) w:=by
 unfold execOp
 simp only [List.map_toArray,List.map_cons,List.map_nil,hx]
 kernel_rfl
theorem ZkD (w:World)(ev:Operand->Value)(x:Operand)(dst:Option Nat)(ty:TypeId)(pos:String)(after:Array Edge){ad:Option Addr}{n c:Nat}(hx:ev x=.agg (pA #[.slice ad n c] noW)):(execOp ev ⟨dst,.box 174 x,ty,pos,after,none⟩).run Tryz.prog w=.ok (.value (.pointer (some ⟨w.heap.size,0,none⟩))) (w.alloc (.cells (pA #[.slice ad n c] noW) 174)):=by
 unfold execOp
 simp only [hx]
 kernel_rfl
theorem ZmE (ad:Option Addr)(c:Nat)(L:List Ins)(w:World)(hL:HsI w (fun k=>k<w.heap.size) ad L)(hG:GoL L)(hlen:L.length<=2048)(h0:0<L.length) :
  Calls Tryz.prog 66 #[.slice ad L.length c] w fun e w'=>∃ g W,e=.returned (.pointer (some ⟨g,0,none⟩))/\w.heap.size<=g/\Below w.heap.size w w'/\OkW W/\(∀ m,inW W m=true↔Eps L 0 m)/\Rn w' g ad L.length c W:=by
 have hnew:=heap_alloc_new w (.cells (pA #[.slice ad L.length c] noW) 174)
 have hB1:Hid (Below w.heap.size w (w.alloc (.cells (pA #[.slice ad L.length c] noW) 174))):=(Below.refl _ w).alloc (Nat.le_refl _) _
 have hst:=Zaa (callsIn_wide.1 (ZjM 5 (by omega) ad c L 0 w.heap.size #[.slice ad L.length c] 174 noW (w.alloc (.cells (pA #[.slice ad L.length c] noW) 174)) (hL.kept (fun k _ hk=>hB1.out.block k hk) (fun k hk h=>⟨by simp;omega,by omega⟩)) hG hlen h0 OkW.no (fun i q h=>by have:=ZjG i;unfold snW at h;rw [this] at h;cases h) hnew))
 replace hL:=Zaa hL
 generalize hln:L.length=n at *
 go_enter Tryz.func66,Tryz.ntmps66
 go_wp2_with (first|((with_reducible refine Zhp 174 _ ?_);refine ZaI (Zhv _ _ _ _ _ _ _ rfl) ?_)|((with_reducible refine Zar 174 ?_);refine ZaI (ZkD _ _ _ _ _ _ _ rfl) ?_))
 refine hst.out.mono ?_
 rintro e w2 ⟨⟨v,rfl⟩,hb,W,hW,hin,hg⟩
 replace hin:=Zaa hin
 go_wp2_with fail
 go_ret
 refine⟨w.heap.size,W,rfl,Nat.le_refl _,hB1.out.trans (hb.below (by simp) (fun k e=>by omega)),hW,fun m=>?_,hg⟩
 have:=hin.out m
 rw [ZjG] at this
 simpa using this
def chkS (L:List Ins)(s:ByteArray):Int:=if chkI L=0 then (if 65536<s.size then 3 else 0) else chkI L
theorem ZmF (ad:Option Addr)(c:Nat)(L:List Ins)(s:ByteArray)(w:World)(hL:HsI w (fun k=>k<w.heap.size) ad L):Calls Tryz.prog 65 #[.slice ad L.length c,.string s] w fun e w'=>e=.returned (.int .i64 (chkS L s))/\Below w.heap.size w w':=by
 have H:=Zaa (chk_any ad c L w hL)
 unfold chkS
 generalize chkI L=r at H ⊢
 generalize L.length=n at *
 by_cases h0:r=0
 ·subst h0
  rw [if_pos rfl]
  by_cases hs:65536<s.size
  ·rw [if_pos hs]
   have i1:(65536:Int)<(s.size:Int):=by omega
   go_enter Tryz.func65,Tryz.ntmps65
   go_wp2_with fail
   refine H.out.mono ?_
   rintro e w1 ⟨rfl,B1⟩
   go_wp2_with fail
   go_ret
   exact⟨rfl,B1⟩
  ·rw [if_neg hs]
   have i1:¬ (65536:Int)<(s.size:Int):=by omega
   go_enter Tryz.func65,Tryz.ntmps65
   go_wp2_with fail
   refine H.out.mono ?_
   rintro e w1 ⟨rfl,B1⟩
   go_wp2_with fail
   go_ret
   exact⟨rfl,B1⟩
 ·rw [if_neg h0]
  have i1:(r == 0)=false:=by simpa using h0
  replace h0:=Zaa h0
  go_enter Tryz.func65,Tryz.ntmps65
  go_wp2_with fail
  refine H.out.mono ?_
  rintro e w1 ⟨rfl,B1⟩
  go_wp2_with fail
  go_ret
  exact⟨rfl,B1⟩
end
section
open Go.RowKit Go.Shelf
attribute [local go_sem] Oper.semAt_some
theorem ld5 {w:World}{ad:Addr}{v:Value}(h:w.cell? ad=some v):(loadVar 5 ad).run Tryz.prog w=.ok v w:=by
 have ha:∀ w,(isAgg 5).run Tryz.prog w=.ok false w:=fun w=>by kernel_rfl
 simp [loadVar,ha,go_sem,h]
theorem ld129 {w:World}{ad:Addr}{v:Value}(h:w.cell? ad=some v):(loadVar 231 ad).run Tryz.prog w=.ok v w:=by
 have ha:∀ w,(isAgg 231).run Tryz.prog w=.ok false w:=fun w=>by kernel_rfl
 simp [loadVar,ha,go_sem,h]
section
variable {F:Fence}{n:Nat}{w w':World}{ops:Array Oper}{o:Oper}{rest:List Oper}{a:Act}{K:Act->World->Prop}{E:Prop}{Q:Exit->Act->World->Prop}{dst:Option Nat}{x y:Operand}{ty:TypeId}{pos:String}{after:Array Edge}
theorem ZaJ (t:TypeId){ad:Addr}{v:Value}(hF:∀ f,F.fn f)(ho:o.op=.load t x)(hgd:Region.wanted o (yielded ops a.tmps)=true)(hx:a.eval x=.pointer (some ad))(hl:(loadVar t ad).run Tryz.prog w=.ok v w)(h:K (a.put o.dst v) w):if Region.wanted o (yielded ops a.tmps)=true then Oper.wpIn F n Tryz.prog o a w K Q else E:=by
 rw [if_pos hgd]
 unfold Oper.wpIn
 refine⟨fun f _=>hF f,?_⟩
 rw [Oper.semAt_plain F _ _ (fun c hc=>by rw [ho] at hc;cases hc)]
 unfold execOp
 simp only [ho,hx,Instr.loadAt,Instr.sureAddr,Sem.run_bind,Sem.run_pure,Result.andThen_ok,hl]
 exact h
theorem wpI_skip (hw:Region.wanted o (yielded ops a.tmps)=false)(hF:∀ f,F.fn f)(h:K (a.put o.dst undef) w):if Region.wanted o (yielded ops a.tmps)=true then Oper.wpIn F n Tryz.prog o a w K Q else (∀ f,o.about Tryz.prog w a.eval=some f->F.fn f)/\K (a.put o.dst undef) w:=by
 rw [if_neg (by simp [hw])]
 exact⟨fun f _=>hF f,h⟩
end
section
variable {F:Fence}{n:Nat}{P:Program}{ops:Array Oper}{Q:Exit->Act->World->Prop}{md:Region.Mode}
theorem Zhw {o:Oper}{a:Act}{w:World}{K:Act->World->Prop}(l:Nat)(hd:∀ c,o.op≠.defer c)(h:Oper.wpIn F n P o a w K Q):Oper.wpIn (F.inRound l) n P o a w K Q:=by
 refine⟨h.1,?_⟩
 have h2:=h.2
 rw [Oper.semAt_eq _ _ _ hd] at h2 ⊢
 exact h2
theorem ZbN (l:Nat)(hd:∀ (j:Nat)(o:Oper),ops[j]?=some o->∀ c,o.op≠.defer c):∀ (fuel:Nat)(listed:Array Bool)(a:Act)(w:World),wpAnyIn F n P md ops Q fuel listed a w->wpAnyIn (F.inRound l) n P md ops Q fuel listed a w:=by
 intro fuel
 induction fuel with
 | zero=>intro listed a w h;exact h
 | succ fuel ih =>
  intro listed a w h
  refine⟨h.1,fun i hi=>?_⟩
  have h2:=h.2 i hi
  unfold wpOpIn at h2 ⊢
  cases ho:ops[i]? with
  | none=>rw [ho] at h2;exact ih _ _ _ h2
  | some o =>
   rw [ho] at h2
   simp only at h2 ⊢
   by_cases hw:Region.wanted o (yielded ops a.tmps)=true
   ·rw [if_pos hw] at h2 ⊢
    exact Zhw l (hd i o ho) (Oper.wpIn_mono (fun a w h=>ih _ _ _ h) h2)
   ·rw [if_neg hw] at h2 ⊢
    exact⟨h2.1,ih _ _ _ h2.2⟩
end
theorem ZeQ (ops:Array Oper)(h:(ops.toList.all fun o=>match o.op with|.defer _=>false|_=>true)=true):∀ (j:Nat)(o:Oper),ops[j]?=some o->∀ c,o.op≠.defer c:=by
 intro j o ho c hc
 have hm:o ∈ ops.toList:=by
  have:=Array.mem_of_getElem? ho
  simpa using this
 have:=List.all_eq_true.1 h o hm
 rw [hc] at this
 cases this
set_option maxRecDepth 100000 in
theorem reg85_a (l0 n0:Nat)(w:World)(b o gb gy l:Nat)(q:Ins)(bt:Nat)(hC0:∀ w',Below w.heap.size w w'->w'.cell? ⟨b,o,none⟩=some (.int .i64 q.op)/\(loadVar 24 ⟨b,o+1,none⟩).run Tryz.prog w'=.ok (Zbf q.s) w'/\w'.cell? ⟨b,o+5,none⟩=some (.int .i64 q.x)/\w'.cell? ⟨gb,0,none⟩=some (.int .u8 (bt:Int))/\w'.cell? ⟨gy,0,none⟩=some (.func (.yield l) #[] #[]))(hop:(q.op == 1)=false)
  (u0 u1 u2 u5 u7 u8 u9 u10 u11 u12 u13 u14 u15 u16 u17 u18 u19 u20 u21 u22 u23 u24 u25 u26 u27 u28 u29 u30 u31 u32 u33 u34:Value) (Q:Exit->Act->World->Prop)
  (h:∀ w',Below w.heap.size w w'->Q .normal { tmps:=(List.toArray ((u0::u1::u2::.pointer (some ⟨gb,0,none⟩)::.pointer (some ⟨gy,0,none⟩)::u5::.pointer (some ⟨b,o,none⟩)::u7::u8::u9::u10::u11::u12::.pointer (some ⟨b,o,none⟩)::.pointer (some ⟨b,o,none⟩)::.pointer (some ⟨b,o,none⟩)::.int .i64 q.op::.bool false::.bool false::undef::undef::undef::undef::undef::undef::.bool false::.bool false::undef::undef::undef::undef::undef::undef::undef::.bool false::[]):List Value)),defers:=[] } w') :
  (Code.region 4 #[⟨some 13,.move (.tmp 6),233,"sim.go:188",#[],none⟩,⟨some 14,.nilCheck (.tmp 13),0,"sim.go:188",#[⟨0,.data⟩],none⟩,⟨some 15,.fieldAddr 182 (.tmp 14) 0,0,"sim.go:188",#[⟨1,.data⟩],none⟩,⟨some 16,.load 3 (.tmp 15),3,"sim.go:188",#[⟨2,.data⟩],none⟩,⟨some 17,.binOp .eql 3 (.tmp 16) (.const (.int .i64 1)) 3,4,"sim.go:188",#[⟨3,.data⟩],none⟩,⟨some 18,.move (.tmp 17),4,"sim.go:188",#[⟨4,.data⟩],none⟩,⟨some 19,.move (.tmp 6),233,"sim.go:188",#[⟨5,.guard⟩],some (5,true)⟩,⟨some 20,.nilCheck (.tmp 19),0,"sim.go:188",#[⟨6,.data⟩,⟨5,.guard⟩],some (5,true)⟩,⟨some 21,.fieldAddr 182 (.tmp 20) 1,0,"sim.go:188",#[⟨7,.data⟩,⟨5,.guard⟩],some (5,true)⟩,⟨some 22,.load 24 (.tmp 21),24,"sim.go:188",#[⟨8,.data⟩,⟨5,.guard⟩],some (5,true)⟩,⟨some 23,.load 5 (.tmp 3),5,"sim.go:188",#[⟨5,.guard⟩],some (5,true)⟩,⟨some 24,.call { callee:=.value (.func 134),args:=#[.tmp 22,.tmp 23],argTypes:=#[24,5] },4,"sim.go:188",#[⟨9,.data⟩,⟨10,.data⟩,⟨5,.chain⟩,⟨5,.guard⟩],some (5,true)⟩,⟨some 25,.pick (.tmp 18) (.tmp 24) (.const (.bool false)),4,"sim.go:188",#[⟨5,.data⟩,⟨11,.data⟩],none⟩,⟨some 26,.move (.tmp 25),4,"sim.go:188",#[⟨12,.data⟩,⟨11,.chain⟩],none⟩,⟨some 27,.load 231 (.tmp 4),231,"sim.go:188",#[⟨13,.guard⟩],some (13,true)⟩,⟨some 28,.move (.tmp 6),233,"sim.go:188",#[⟨13,.guard⟩],some (13,true)⟩,⟨some 29,.nilCheck (.tmp 28),0,"sim.go:188",#[⟨15,.data⟩,⟨13,.guard⟩],some (13,true)⟩,⟨some 30,.fieldAddr 182 (.tmp 29) 2,0,"sim.go:188",#[⟨16,.data⟩,⟨13,.guard⟩],some (13,true)⟩,⟨some 31,.load 3 (.tmp 30),3,"sim.go:188",#[⟨17,.data⟩,⟨13,.guard⟩],some (13,true)⟩,⟨some 32,.call { callee:=.value (.tmp 27),args:=#[.tmp 31],argTypes:=#[3] },4,"sim.go:188",#[⟨14,.data⟩,⟨18,.data⟩,⟨13,.chain⟩,⟨13,.guard⟩],some (13,true)⟩,⟨some 33,.unOp .not 4 (.tmp 32),4,"sim.go:188",#[⟨19,.data⟩,⟨13,.guard⟩],some (13,true)⟩,⟨some 34,.pick (.tmp 26) (.tmp 33) (.const (.bool false)),4,"sim.go:188",#[⟨13,.data⟩,⟨20,.data⟩],none⟩] true).wpIn (Fence.wide.inRound l0) n0 Tryz.prog Q { tmps:=(List.toArray ((u0::u1::u2::.pointer (some ⟨gb,0,none⟩)::.pointer (some ⟨gy,0,none⟩)::u5::.pointer (some ⟨b,o,none⟩)::u7::u8::u9::u10::u11::u12::u13::u14::u15::u16::u17::u18::u19::u20::u21::u22::u23::u24::u25::u26::u27::u28::u29::u30::u31::u32::u33::u34::[]):List Value)),defers:=[] } w:=by
 have hD:Below w.heap.size w w.drew:=(Below.refl _ w).drew
 have hC:=Zaa hC0
 clear hC0
 replace h:=Zaa h
 refine Code.wpIn_mono NoPanic.imp ?_
 refine wpIn_region_any (by kernel_rfl) ?_
 change wpAnyIn _ _ _ _ _ _ _ _ _ (World.drew w)
 refine ZbN l0 (ZeQ _ (by kernel_rfl)) _ _ _ _ ?_
 refine wpAnyIn_take (i:=0) (oi:=⟨some 13,.move (.tmp 6),233,"sim.go:188",#[],none⟩) (v:=?_) rfl rfl (by kernel_rfl) (by kernel_rfl) (by kernel_rfl) (fun _ _ _ h=>h) ⟨Or.inl ⟨by rfl,?_⟩,fun _=>rfl⟩ ?_
 rotate_left
 ·intro w'
  go_simp
  try with_reducible rfl
 try simp only [Act.put,PuA]
 refine wpAnyIn_take (i:=1) (oi:=⟨some 14,.nilCheck (.tmp 13),0,"sim.go:188",#[⟨0,.data⟩],none⟩) (v:=?_) rfl rfl (by kernel_rfl) (by kernel_rfl) (by kernel_rfl) (fun _ _ _ h=>h) ⟨Or.inl ⟨by rfl,?_⟩,fun _=>rfl⟩ ?_
 rotate_left
 ·intro w'
  go_simp
  try with_reducible rfl
 try simp only [Act.put,PuA]
 refine wpAnyIn_take (i:=2) (oi:=⟨some 15,.fieldAddr 182 (.tmp 14) 0,0,"sim.go:188",#[⟨1,.data⟩],none⟩) (v:=?_) rfl rfl (by kernel_rfl) (by kernel_rfl) (by kernel_rfl) (fun _ _ _ h=>h) ⟨Or.inl ⟨by rfl,?_⟩,fun _=>rfl⟩ ?_
 rotate_left
 ·intro w'
  go_simp
  try with_reducible rfl
 try simp only [Act.put,PuA]
 refine wpAnyIn_ready (rs:=[3]) (by kernel_rfl) (by simp) ?_
 refine (AllReadyIn.cons (o:=⟨some 16,.load 3 (.tmp 15),3,"sim.go:188",#[⟨2,.data⟩],none⟩) rfl (fun K3 hK3=>?_) AllReadyIn.nil)
 refine ZaJ 3 Zad rfl (by rfl) rfl (ld3 (hC.out _ hD).1) (hK3 _ _ ?_)
 clear hK3 K3
 try simp only [Act.put,PuA]
 refine wpAnyIn_take (i:=4) (oi:=⟨some 17,.binOp .eql 3 (.tmp 16) (.const (.int .i64 1)) 3,4,"sim.go:188",#[⟨3,.data⟩],none⟩) (v:=?_) rfl rfl (by kernel_rfl) (by kernel_rfl) (by kernel_rfl) (fun _ _ _ h=>h) ⟨Or.inl ⟨by rfl,?_⟩,fun _=>rfl⟩ ?_
 rotate_left
 ·intro w'
  go_simp
  try with_reducible rfl
 try simp only [Act.put,PuA]
 refine wpAnyIn_take (i:=5) (oi:=⟨some 18,.move (.tmp 17),4,"sim.go:188",#[⟨4,.data⟩],none⟩) (v:=?_) rfl rfl (by kernel_rfl) (by kernel_rfl) (by kernel_rfl) (fun _ _ _ h=>h) ⟨Or.inl ⟨by rfl,?_⟩,fun _=>rfl⟩ ?_
 rotate_left
 ·intro w'
  go_simp
  try with_reducible rfl
 try simp only [Act.put,PuA]
 refine wpAnyIn_take (i:=6) (oi:=⟨some 19,.move (.tmp 6),233,"sim.go:188",#[⟨5,.guard⟩],some (5,true)⟩) (v:=undef) rfl rfl (by kernel_rfl) (by kernel_rfl) (by kernel_rfl) (fun _ _ _ h=>h) ⟨Or.inr ⟨by rfl,rfl⟩,fun _=>rfl⟩ ?_
 try simp only [Act.put,PuA]
 refine wpAnyIn_take (i:=7) (oi:=⟨some 20,.nilCheck (.tmp 19),0,"sim.go:188",#[⟨6,.data⟩,⟨5,.guard⟩],some (5,true)⟩) (v:=undef) rfl rfl (by kernel_rfl) (by kernel_rfl) (by kernel_rfl) (fun _ _ _ h=>h) ⟨Or.inr ⟨by rfl,rfl⟩,fun _=>rfl⟩ ?_
 try simp only [Act.put,PuA]
 refine wpAnyIn_take (i:=8) (oi:=⟨some 21,.fieldAddr 182 (.tmp 20) 1,0,"sim.go:188",#[⟨7,.data⟩,⟨5,.guard⟩],some (5,true)⟩) (v:=undef) rfl rfl (by kernel_rfl) (by kernel_rfl) (by kernel_rfl) (fun _ _ _ h=>h) ⟨Or.inr ⟨by rfl,rfl⟩,fun _=>rfl⟩ ?_
 try simp only [Act.put,PuA]
 refine wpAnyIn_take (i:=9) (oi:=⟨some 22,.load 24 (.tmp 21),24,"sim.go:188",#[⟨8,.data⟩,⟨5,.guard⟩],some (5,true)⟩) (v:=undef) rfl rfl (by kernel_rfl) (by kernel_rfl) (by kernel_rfl) (fun _ _ _ h=>h) ⟨Or.inr ⟨by rfl,rfl⟩,fun _=>rfl⟩ ?_
 try simp only [Act.put,PuA]
 refine wpAnyIn_take (i:=10) (oi:=⟨some 23,.load 5 (.tmp 3),5,"sim.go:188",#[⟨5,.guard⟩],some (5,true)⟩) (v:=undef) rfl rfl (by kernel_rfl) (by kernel_rfl) (by kernel_rfl) (fun _ _ _ h=>h) ⟨Or.inr ⟨by rfl,rfl⟩,fun _=>rfl⟩ ?_
 try simp only [Act.put,PuA]
 refine wpAnyIn_ready (rs:=[11]) (by kernel_rfl) (by simp) ?_
 refine (AllReadyIn.cons (o:=⟨some 24,.call { callee:=.value (.func 134),args:=#[.tmp 22,.tmp 23],argTypes:=#[24,5] },4,"sim.go:188",#[⟨9,.data⟩,⟨10,.data⟩,⟨5,.chain⟩,⟨5,.guard⟩],some (5,true)⟩) rfl (fun K11 hK11=>?_) AllReadyIn.nil)
 refine wpI_skip (by rfl) Zad (hK11 _ _ ?_)
 clear hK11 K11
 try simp only [Act.put,PuA]
 refine wpAnyIn_take (i:=12) (oi:=⟨some 25,.pick (.tmp 18) (.tmp 24) (.const (.bool false)),4,"sim.go:188",#[⟨5,.data⟩,⟨11,.data⟩],none⟩) (v:=?_) rfl rfl (by kernel_rfl) (by kernel_rfl) (by kernel_rfl) (fun _ _ _ h=>h) ⟨Or.inl ⟨by rfl,?_⟩,fun _=>rfl⟩ ?_
 rotate_left
 ·intro w'
  go_simp
  try with_reducible rfl
 try simp only [Act.put,PuA]
 refine wpAnyIn_take (i:=13) (oi:=⟨some 26,.move (.tmp 25),4,"sim.go:188",#[⟨12,.data⟩,⟨11,.chain⟩],none⟩) (v:=?_) rfl rfl (by kernel_rfl) (by kernel_rfl) (by kernel_rfl) (fun _ _ _ h=>h) ⟨Or.inl ⟨by rfl,?_⟩,fun _=>rfl⟩ ?_
 rotate_left
 ·intro w'
  go_simp
  try with_reducible rfl
 try simp only [Act.put,PuA]
 refine wpAnyIn_take (i:=14) (oi:=⟨some 27,.load 231 (.tmp 4),231,"sim.go:188",#[⟨13,.guard⟩],some (13,true)⟩) (v:=undef) rfl rfl (by kernel_rfl) (by kernel_rfl) (by kernel_rfl) (fun _ _ _ h=>h) ⟨Or.inr ⟨by rfl,rfl⟩,fun _=>rfl⟩ ?_
 try simp only [Act.put,PuA]
 refine wpAnyIn_take (i:=15) (oi:=⟨some 28,.move (.tmp 6),233,"sim.go:188",#[⟨13,.guard⟩],some (13,true)⟩) (v:=undef) rfl rfl (by kernel_rfl) (by kernel_rfl) (by kernel_rfl) (fun _ _ _ h=>h) ⟨Or.inr ⟨by rfl,rfl⟩,fun _=>rfl⟩ ?_
 try simp only [Act.put,PuA]
 refine wpAnyIn_take (i:=16) (oi:=⟨some 29,.nilCheck (.tmp 28),0,"sim.go:188",#[⟨15,.data⟩,⟨13,.guard⟩],some (13,true)⟩) (v:=undef) rfl rfl (by kernel_rfl) (by kernel_rfl) (by kernel_rfl) (fun _ _ _ h=>h) ⟨Or.inr ⟨by rfl,rfl⟩,fun _=>rfl⟩ ?_
 try simp only [Act.put,PuA]
 refine wpAnyIn_take (i:=17) (oi:=⟨some 30,.fieldAddr 182 (.tmp 29) 2,0,"sim.go:188",#[⟨16,.data⟩,⟨13,.guard⟩],some (13,true)⟩) (v:=undef) rfl rfl (by kernel_rfl) (by kernel_rfl) (by kernel_rfl) (fun _ _ _ h=>h) ⟨Or.inr ⟨by rfl,rfl⟩,fun _=>rfl⟩ ?_
 try simp only [Act.put,PuA]
 refine wpAnyIn_take (i:=18) (oi:=⟨some 31,.load 3 (.tmp 30),3,"sim.go:188",#[⟨17,.data⟩,⟨13,.guard⟩],some (13,true)⟩) (v:=undef) rfl rfl (by kernel_rfl) (by kernel_rfl) (by kernel_rfl) (fun _ _ _ h=>h) ⟨Or.inr ⟨by rfl,rfl⟩,fun _=>rfl⟩ ?_
 try simp only [Act.put,PuA]
 refine wpAnyIn_take (i:=19) (oi:=⟨some 32,.call { callee:=.value (.tmp 27),args:=#[.tmp 31],argTypes:=#[3] },4,"sim.go:188",#[⟨14,.data⟩,⟨18,.data⟩,⟨13,.chain⟩,⟨13,.guard⟩],some (13,true)⟩) (v:=undef) rfl rfl (by kernel_rfl) (by kernel_rfl) (by kernel_rfl) (fun _ _ _ h=>h) ⟨Or.inr ⟨by rfl,rfl⟩,fun _=>rfl⟩ ?_
 try simp only [Act.put,PuA]
 refine wpAnyIn_take (i:=20) (oi:=⟨some 33,.unOp .not 4 (.tmp 32),4,"sim.go:188",#[⟨19,.data⟩,⟨13,.guard⟩],some (13,true)⟩) (v:=undef) rfl rfl (by kernel_rfl) (by kernel_rfl) (by kernel_rfl) (fun _ _ _ h=>h) ⟨Or.inr ⟨by rfl,rfl⟩,fun _=>rfl⟩ ?_
 try simp only [Act.put,PuA]
 refine wpAnyIn_take (i:=21) (oi:=⟨some 34,.pick (.tmp 26) (.tmp 33) (.const (.bool false)),4,"sim.go:188",#[⟨13,.data⟩,⟨20,.data⟩],none⟩) (v:=?_) rfl rfl (by kernel_rfl) (by kernel_rfl) (by kernel_rfl) (fun _ _ _ h=>h) ⟨Or.inl ⟨by rfl,?_⟩,fun _=>rfl⟩ ?_
 rotate_left
 ·intro w'
  go_simp
  try with_reducible rfl
 try simp only [Act.put,PuA]
 refine wpAnyIn_done (by kernel_rfl) ?_ _
 refine NoPanic.normal ?_
 exact h.out _ hD
set_option maxRecDepth 100000 in
theorem reg85_b (l0 n0:Nat)(w:World)(b o gb gy l:Nat)(q:Ins)(bt:Nat)(hC0:∀ w',Below w.heap.size w w'->w'.cell? ⟨b,o,none⟩=some (.int .i64 q.op)/\(loadVar 24 ⟨b,o+1,none⟩).run Tryz.prog w'=.ok (Zbf q.s) w'/\w'.cell? ⟨b,o+5,none⟩=some (.int .i64 q.x)/\w'.cell? ⟨gb,0,none⟩=some (.int .u8 (bt:Int))/\w'.cell? ⟨gy,0,none⟩=some (.func (.yield l) #[] #[]))(hop:(q.op == 1)=true)(hs:OkS q.s)(hbt:bt<256)(hin:inS q.s bt=false)
  (u0 u1 u2 u5 u7 u8 u9 u10 u11 u12 u13 u14 u15 u16 u17 u18 u19 u20 u21 u22 u23 u24 u25 u26 u27 u28 u29 u30 u31 u32 u33 u34:Value) (Q:Exit->Act->World->Prop)
  (h:∀ w',Below w.heap.size w w'->Q .normal { tmps:=(List.toArray ((u0::u1::u2::.pointer (some ⟨gb,0,none⟩)::.pointer (some ⟨gy,0,none⟩)::u5::.pointer (some ⟨b,o,none⟩)::u7::u8::u9::u10::u11::u12::.pointer (some ⟨b,o,none⟩)::.pointer (some ⟨b,o,none⟩)::.pointer (some ⟨b,o,none⟩)::.int .i64 q.op::.bool true::.bool true::.pointer (some ⟨b,o,none⟩)::.pointer (some ⟨b,o,none⟩)::.pointer (some ⟨b,o+1,none⟩)::Zbf q.s::.int .u8 (bt:Int)::.bool false::.bool false::.bool false::undef::undef::undef::undef::undef::undef::undef::.bool false::[]):List Value)),defers:=[] } w') :
  (Code.region 4 #[⟨some 13,.move (.tmp 6),233,"sim.go:188",#[],none⟩,⟨some 14,.nilCheck (.tmp 13),0,"sim.go:188",#[⟨0,.data⟩],none⟩,⟨some 15,.fieldAddr 182 (.tmp 14) 0,0,"sim.go:188",#[⟨1,.data⟩],none⟩,⟨some 16,.load 3 (.tmp 15),3,"sim.go:188",#[⟨2,.data⟩],none⟩,⟨some 17,.binOp .eql 3 (.tmp 16) (.const (.int .i64 1)) 3,4,"sim.go:188",#[⟨3,.data⟩],none⟩,⟨some 18,.move (.tmp 17),4,"sim.go:188",#[⟨4,.data⟩],none⟩,⟨some 19,.move (.tmp 6),233,"sim.go:188",#[⟨5,.guard⟩],some (5,true)⟩,⟨some 20,.nilCheck (.tmp 19),0,"sim.go:188",#[⟨6,.data⟩,⟨5,.guard⟩],some (5,true)⟩,⟨some 21,.fieldAddr 182 (.tmp 20) 1,0,"sim.go:188",#[⟨7,.data⟩,⟨5,.guard⟩],some (5,true)⟩,⟨some 22,.load 24 (.tmp 21),24,"sim.go:188",#[⟨8,.data⟩,⟨5,.guard⟩],some (5,true)⟩,⟨some 23,.load 5 (.tmp 3),5,"sim.go:188",#[⟨5,.guard⟩],some (5,true)⟩,⟨some 24,.call { callee:=.value (.func 134),args:=#[.tmp 22,.tmp 23],argTypes:=#[24,5] },4,"sim.go:188",#[⟨9,.data⟩,⟨10,.data⟩,⟨5,.chain⟩,⟨5,.guard⟩],some (5,true)⟩,⟨some 25,.pick (.tmp 18) (.tmp 24) (.const (.bool false)),4,"sim.go:188",#[⟨5,.data⟩,⟨11,.data⟩],none⟩,⟨some 26,.move (.tmp 25),4,"sim.go:188",#[⟨12,.data⟩,⟨11,.chain⟩],none⟩,⟨some 27,.load 231 (.tmp 4),231,"sim.go:188",#[⟨13,.guard⟩],some (13,true)⟩,⟨some 28,.move (.tmp 6),233,"sim.go:188",#[⟨13,.guard⟩],some (13,true)⟩,⟨some 29,.nilCheck (.tmp 28),0,"sim.go:188",#[⟨15,.data⟩,⟨13,.guard⟩],some (13,true)⟩,⟨some 30,.fieldAddr 182 (.tmp 29) 2,0,"sim.go:188",#[⟨16,.data⟩,⟨13,.guard⟩],some (13,true)⟩,⟨some 31,.load 3 (.tmp 30),3,"sim.go:188",#[⟨17,.data⟩,⟨13,.guard⟩],some (13,true)⟩,⟨some 32,.call { callee:=.value (.tmp 27),args:=#[.tmp 31],argTypes:=#[3] },4,"sim.go:188",#[⟨14,.data⟩,⟨18,.data⟩,⟨13,.chain⟩,⟨13,.guard⟩],some (13,true)⟩,⟨some 33,.unOp .not 4 (.tmp 32),4,"sim.go:188",#[⟨19,.data⟩,⟨13,.guard⟩],some (13,true)⟩,⟨some 34,.pick (.tmp 26) (.tmp 33) (.const (.bool false)),4,"sim.go:188",#[⟨13,.data⟩,⟨20,.data⟩],none⟩] true).wpIn (Fence.wide.inRound l0) n0 Tryz.prog Q { tmps:=(List.toArray ((u0::u1::u2::.pointer (some ⟨gb,0,none⟩)::.pointer (some ⟨gy,0,none⟩)::u5::.pointer (some ⟨b,o,none⟩)::u7::u8::u9::u10::u11::u12::u13::u14::u15::u16::u17::u18::u19::u20::u21::u22::u23::u24::u25::u26::u27::u28::u29::u30::u31::u32::u33::u34::[]):List Value)),defers:=[] } w:=by
 have hD:Below w.heap.size w w.drew:=(Below.refl _ w).drew
 have hC:=Zaa hC0
 clear hC0
 replace h:=Zaa h
 refine Code.wpIn_mono NoPanic.imp ?_
 refine wpIn_region_any (by kernel_rfl) ?_
 change wpAnyIn _ _ _ _ _ _ _ _ _ (World.drew w)
 refine ZbN l0 (ZeQ _ (by kernel_rfl)) _ _ _ _ ?_
 refine wpAnyIn_take (i:=0) (oi:=⟨some 13,.move (.tmp 6),233,"sim.go:188",#[],none⟩) (v:=?_) rfl rfl (by kernel_rfl) (by kernel_rfl) (by kernel_rfl) (fun _ _ _ h=>h) ⟨Or.inl ⟨by rfl,?_⟩,fun _=>rfl⟩ ?_
 rotate_left
 ·intro w'
  go_simp
  try with_reducible rfl
 try simp only [Act.put,PuA]
 refine wpAnyIn_take (i:=1) (oi:=⟨some 14,.nilCheck (.tmp 13),0,"sim.go:188",#[⟨0,.data⟩],none⟩) (v:=?_) rfl rfl (by kernel_rfl) (by kernel_rfl) (by kernel_rfl) (fun _ _ _ h=>h) ⟨Or.inl ⟨by rfl,?_⟩,fun _=>rfl⟩ ?_
 rotate_left
 ·intro w'
  go_simp
  try with_reducible rfl
 try simp only [Act.put,PuA]
 refine wpAnyIn_take (i:=2) (oi:=⟨some 15,.fieldAddr 182 (.tmp 14) 0,0,"sim.go:188",#[⟨1,.data⟩],none⟩) (v:=?_) rfl rfl (by kernel_rfl) (by kernel_rfl) (by kernel_rfl) (fun _ _ _ h=>h) ⟨Or.inl ⟨by rfl,?_⟩,fun _=>rfl⟩ ?_
 rotate_left
 ·intro w'
  go_simp
  try with_reducible rfl
 try simp only [Act.put,PuA]
 refine wpAnyIn_ready (rs:=[3]) (by kernel_rfl) (by simp) ?_
 refine (AllReadyIn.cons (o:=⟨some 16,.load 3 (.tmp 15),3,"sim.go:188",#[⟨2,.data⟩],none⟩) rfl (fun K3 hK3=>?_) AllReadyIn.nil)
 refine ZaJ 3 Zad rfl (by rfl) rfl (ld3 (hC.out _ hD).1) (hK3 _ _ ?_)
 clear hK3 K3
 try simp only [Act.put,PuA]
 refine wpAnyIn_take (i:=4) (oi:=⟨some 17,.binOp .eql 3 (.tmp 16) (.const (.int .i64 1)) 3,4,"sim.go:188",#[⟨3,.data⟩],none⟩) (v:=?_) rfl rfl (by kernel_rfl) (by kernel_rfl) (by kernel_rfl) (fun _ _ _ h=>h) ⟨Or.inl ⟨by rfl,?_⟩,fun _=>rfl⟩ ?_
 rotate_left
 ·intro w'
  go_simp
  try with_reducible rfl
 try simp only [Act.put,PuA]
 refine wpAnyIn_take (i:=5) (oi:=⟨some 18,.move (.tmp 17),4,"sim.go:188",#[⟨4,.data⟩],none⟩) (v:=?_) rfl rfl (by kernel_rfl) (by kernel_rfl) (by kernel_rfl) (fun _ _ _ h=>h) ⟨Or.inl ⟨by rfl,?_⟩,fun _=>rfl⟩ ?_
 rotate_left
 ·intro w'
  go_simp
  try with_reducible rfl
 try simp only [Act.put,PuA]
 refine wpAnyIn_take (i:=6) (oi:=⟨some 19,.move (.tmp 6),233,"sim.go:188",#[⟨5,.guard⟩],some (5,true)⟩) (v:=?_) rfl rfl (by kernel_rfl) (by kernel_rfl) (by kernel_rfl) (fun _ _ _ h=>h) ⟨Or.inl ⟨by rfl,?_⟩,fun _=>rfl⟩ ?_
 rotate_left
 ·intro w'
  go_simp
  try with_reducible rfl
 try simp only [Act.put,PuA]
 refine wpAnyIn_take (i:=7) (oi:=⟨some 20,.nilCheck (.tmp 19),0,"sim.go:188",#[⟨6,.data⟩,⟨5,.guard⟩],some (5,true)⟩) (v:=?_) rfl rfl (by kernel_rfl) (by kernel_rfl) (by kernel_rfl) (fun _ _ _ h=>h) ⟨Or.inl ⟨by rfl,?_⟩,fun _=>rfl⟩ ?_
 rotate_left
 ·intro w'
  go_simp
  try with_reducible rfl
 try simp only [Act.put,PuA]
 refine wpAnyIn_take (i:=8) (oi:=⟨some 21,.fieldAddr 182 (.tmp 20) 1,0,"sim.go:188",#[⟨7,.data⟩,⟨5,.guard⟩],some (5,true)⟩) (v:=?_) rfl rfl (by kernel_rfl) (by kernel_rfl) (by kernel_rfl) (fun _ _ _ h=>h) ⟨Or.inl ⟨by rfl,?_⟩,fun _=>rfl⟩ ?_
 rotate_left
 ·intro w'
  go_simp
  try with_reducible rfl
 try simp only [Act.put,PuA]
 refine wpAnyIn_ready (rs:=[9,10]) (by kernel_rfl) (by simp) ?_
 refine (AllReadyIn.cons (o:=⟨some 22,.load 24 (.tmp 21),24,"sim.go:188",#[⟨8,.data⟩,⟨5,.guard⟩],some (5,true)⟩) rfl (fun K9 hK9=>?_) (AllReadyIn.cons (o:=⟨some 23,.load 5 (.tmp 3),5,"sim.go:188",#[⟨5,.guard⟩],some (5,true)⟩) rfl (fun K10 hK10=>?_) AllReadyIn.nil))
 ·refine ZaJ 24 Zad rfl (by rfl) rfl ((hC.out _ hD).2.1) (hK9 _ _ ?_)
  clear hK9 K9
  try simp only [Act.put,PuA]
  refine wpAnyIn_ready (rs:=[10]) (by kernel_rfl) (by simp) ?_
  refine (AllReadyIn.cons (o:=⟨some 23,.load 5 (.tmp 3),5,"sim.go:188",#[⟨5,.guard⟩],some (5,true)⟩) rfl (fun K10 hK10=>?_) AllReadyIn.nil)
  refine ZaJ 5 Zad rfl (by rfl) rfl (ld5 (hC.out _ hD).2.2.2.1) (hK10 _ _ ?_)
  clear hK10 K10
  try simp only [Act.put,PuA]
  refine wpAnyIn_ready (rs:=[11]) (by kernel_rfl) (by simp) ?_
  refine (AllReadyIn.cons (o:=⟨some 24,.call { callee:=.value (.func 134),args:=#[.tmp 22,.tmp 23],argTypes:=#[24,5] },4,"sim.go:188",#[⟨9,.data⟩,⟨10,.data⟩,⟨5,.chain⟩,⟨5,.guard⟩],some (5,true)⟩) rfl (fun K11 hK11=>?_) AllReadyIn.nil)
  go_simp
  refine⟨trivial,fun h=>(by cases h),(callsIn_wide.2 (ZmD q.s hs bt hbt _)).mono ?_⟩
  rintro e w4 ⟨rfl,B4⟩
  replace B4:Below w.heap.size w.drew w4:=B4
  rw [hin]
  refine hK11 _ _ ?_
  clear hK11 K11
  try simp only [Act.put,PuA]
  refine wpAnyIn_take (i:=12) (oi:=⟨some 25,.pick (.tmp 18) (.tmp 24) (.const (.bool false)),4,"sim.go:188",#[⟨5,.data⟩,⟨11,.data⟩],none⟩) (v:=?_) rfl rfl (by kernel_rfl) (by kernel_rfl) (by kernel_rfl) (fun _ _ _ h=>h) ⟨Or.inl ⟨by rfl,?_⟩,fun _=>rfl⟩ ?_
  rotate_left
  ·intro w'
   go_simp
   try with_reducible rfl
  try simp only [Act.put,PuA]
  refine wpAnyIn_take (i:=13) (oi:=⟨some 26,.move (.tmp 25),4,"sim.go:188",#[⟨12,.data⟩,⟨11,.chain⟩],none⟩) (v:=?_) rfl rfl (by kernel_rfl) (by kernel_rfl) (by kernel_rfl) (fun _ _ _ h=>h) ⟨Or.inl ⟨by rfl,?_⟩,fun _=>rfl⟩ ?_
  rotate_left
  ·intro w'
   go_simp
   try with_reducible rfl
  try simp only [Act.put,PuA]
  refine wpAnyIn_take (i:=14) (oi:=⟨some 27,.load 231 (.tmp 4),231,"sim.go:188",#[⟨13,.guard⟩],some (13,true)⟩) (v:=undef) rfl rfl (by kernel_rfl) (by kernel_rfl) (by kernel_rfl) (fun _ _ _ h=>h) ⟨Or.inr ⟨by rfl,rfl⟩,fun _=>rfl⟩ ?_
  try simp only [Act.put,PuA]
  refine wpAnyIn_take (i:=15) (oi:=⟨some 28,.move (.tmp 6),233,"sim.go:188",#[⟨13,.guard⟩],some (13,true)⟩) (v:=undef) rfl rfl (by kernel_rfl) (by kernel_rfl) (by kernel_rfl) (fun _ _ _ h=>h) ⟨Or.inr ⟨by rfl,rfl⟩,fun _=>rfl⟩ ?_
  try simp only [Act.put,PuA]
  refine wpAnyIn_take (i:=16) (oi:=⟨some 29,.nilCheck (.tmp 28),0,"sim.go:188",#[⟨15,.data⟩,⟨13,.guard⟩],some (13,true)⟩) (v:=undef) rfl rfl (by kernel_rfl) (by kernel_rfl) (by kernel_rfl) (fun _ _ _ h=>h) ⟨Or.inr ⟨by rfl,rfl⟩,fun _=>rfl⟩ ?_
  try simp only [Act.put,PuA]
  refine wpAnyIn_take (i:=17) (oi:=⟨some 30,.fieldAddr 182 (.tmp 29) 2,0,"sim.go:188",#[⟨16,.data⟩,⟨13,.guard⟩],some (13,true)⟩) (v:=undef) rfl rfl (by kernel_rfl) (by kernel_rfl) (by kernel_rfl) (fun _ _ _ h=>h) ⟨Or.inr ⟨by rfl,rfl⟩,fun _=>rfl⟩ ?_
  try simp only [Act.put,PuA]
  refine wpAnyIn_take (i:=18) (oi:=⟨some 31,.load 3 (.tmp 30),3,"sim.go:188",#[⟨17,.data⟩,⟨13,.guard⟩],some (13,true)⟩) (v:=undef) rfl rfl (by kernel_rfl) (by kernel_rfl) (by kernel_rfl) (fun _ _ _ h=>h) ⟨Or.inr ⟨by rfl,rfl⟩,fun _=>rfl⟩ ?_
  try simp only [Act.put,PuA]
  refine wpAnyIn_take (i:=19) (oi:=⟨some 32,.call { callee:=.value (.tmp 27),args:=#[.tmp 31],argTypes:=#[3] },4,"sim.go:188",#[⟨14,.data⟩,⟨18,.data⟩,⟨13,.chain⟩,⟨13,.guard⟩],some (13,true)⟩) (v:=undef) rfl rfl (by kernel_rfl) (by kernel_rfl) (by kernel_rfl) (fun _ _ _ h=>h) ⟨Or.inr ⟨by rfl,rfl⟩,fun _=>rfl⟩ ?_
  try simp only [Act.put,PuA]
  refine wpAnyIn_take (i:=20) (oi:=⟨some 33,.unOp .not 4 (.tmp 32),4,"sim.go:188",#[⟨19,.data⟩,⟨13,.guard⟩],some (13,true)⟩) (v:=undef) rfl rfl (by kernel_rfl) (by kernel_rfl) (by kernel_rfl) (fun _ _ _ h=>h) ⟨Or.inr ⟨by rfl,rfl⟩,fun _=>rfl⟩ ?_
  try simp only [Act.put,PuA]
  refine wpAnyIn_take (i:=21) (oi:=⟨some 34,.pick (.tmp 26) (.tmp 33) (.const (.bool false)),4,"sim.go:188",#[⟨13,.data⟩,⟨20,.data⟩],none⟩) (v:=?_) rfl rfl (by kernel_rfl) (by kernel_rfl) (by kernel_rfl) (fun _ _ _ h=>h) ⟨Or.inl ⟨by rfl,?_⟩,fun _=>rfl⟩ ?_
  rotate_left
  ·intro w'
   go_simp
   try with_reducible rfl
  try simp only [Act.put,PuA]
  refine wpAnyIn_done (by kernel_rfl) ?_ _
  refine NoPanic.normal ?_
  exact h.out _ (hD.trans B4)
 ·refine ZaJ 5 Zad rfl (by rfl) rfl (ld5 (hC.out _ hD).2.2.2.1) (hK10 _ _ ?_)
  clear hK10 K10
  try simp only [Act.put,PuA]
  refine wpAnyIn_ready (rs:=[9]) (by kernel_rfl) (by simp) ?_
  refine (AllReadyIn.cons (o:=⟨some 22,.load 24 (.tmp 21),24,"sim.go:188",#[⟨8,.data⟩,⟨5,.guard⟩],some (5,true)⟩) rfl (fun K9 hK9=>?_) AllReadyIn.nil)
  refine ZaJ 24 Zad rfl (by rfl) rfl ((hC.out _ hD).2.1) (hK9 _ _ ?_)
  clear hK9 K9
  try simp only [Act.put,PuA]
  refine wpAnyIn_ready (rs:=[11]) (by kernel_rfl) (by simp) ?_
  refine (AllReadyIn.cons (o:=⟨some 24,.call { callee:=.value (.func 134),args:=#[.tmp 22,.tmp 23],argTypes:=#[24,5] },4,"sim.go:188",#[⟨9,.data⟩,⟨10,.data⟩,⟨5,.chain⟩,⟨5,.guard⟩],some (5,true)⟩) rfl (fun K11 hK11=>?_) AllReadyIn.nil)
  go_simp
  refine⟨trivial,fun h=>(by cases h),(callsIn_wide.2 (ZmD q.s hs bt hbt _)).mono ?_⟩
  rintro e w4 ⟨rfl,B4⟩
  replace B4:Below w.heap.size w.drew w4:=B4
  rw [hin]
  refine hK11 _ _ ?_
  clear hK11 K11
  try simp only [Act.put,PuA]
  refine wpAnyIn_take (i:=12) (oi:=⟨some 25,.pick (.tmp 18) (.tmp 24) (.const (.bool false)),4,"sim.go:188",#[⟨5,.data⟩,⟨11,.data⟩],none⟩) (v:=?_) rfl rfl (by kernel_rfl) (by kernel_rfl) (by kernel_rfl) (fun _ _ _ h=>h) ⟨Or.inl ⟨by rfl,?_⟩,fun _=>rfl⟩ ?_
  rotate_left
  ·intro w'
   go_simp
   try with_reducible rfl
  try simp only [Act.put,PuA]
  refine wpAnyIn_take (i:=13) (oi:=⟨some 26,.move (.tmp 25),4,"sim.go:188",#[⟨12,.data⟩,⟨11,.chain⟩],none⟩) (v:=?_) rfl rfl (by kernel_rfl) (by kernel_rfl) (by kernel_rfl) (fun _ _ _ h=>h) ⟨Or.inl ⟨by rfl,?_⟩,fun _=>rfl⟩ ?_
  rotate_left
  ·intro w'
   go_simp
   try with_reducible rfl
  try simp only [Act.put,PuA]
  refine wpAnyIn_take (i:=14) (oi:=⟨some 27,.load 231 (.tmp 4),231,"sim.go:188",#[⟨13,.guard⟩],some (13,true)⟩) (v:=undef) rfl rfl (by kernel_rfl) (by kernel_rfl) (by kernel_rfl) (fun _ _ _ h=>h) ⟨Or.inr ⟨by rfl,rfl⟩,fun _=>rfl⟩ ?_
  try simp only [Act.put,PuA]
  refine wpAnyIn_take (i:=15) (oi:=⟨some 28,.move (.tmp 6),233,"sim.go:188",#[⟨13,.guard⟩],some (13,true)⟩) (v:=undef) rfl rfl (by kernel_rfl) (by kernel_rfl) (by kernel_rfl) (fun _ _ _ h=>h) ⟨Or.inr ⟨by rfl,rfl⟩,fun _=>rfl⟩ ?_
  try simp only [Act.put,PuA]
  refine wpAnyIn_take (i:=16) (oi:=⟨some 29,.nilCheck (.tmp 28),0,"sim.go:188",#[⟨15,.data⟩,⟨13,.guard⟩],some (13,true)⟩) (v:=undef) rfl rfl (by kernel_rfl) (by kernel_rfl) (by kernel_rfl) (fun _ _ _ h=>h) ⟨Or.inr ⟨by rfl,rfl⟩,fun _=>rfl⟩ ?_
  try simp only [Act.put,PuA]
  refine wpAnyIn_take (i:=17) (oi:=⟨some 30,.fieldAddr 182 (.tmp 29) 2,0,"sim.go:188",#[⟨16,.data⟩,⟨13,.guard⟩],some (13,true)⟩) (v:=undef) rfl rfl (by kernel_rfl) (by kernel_rfl) (by kernel_rfl) (fun _ _ _ h=>h) ⟨Or.inr ⟨by rfl,rfl⟩,fun _=>rfl⟩ ?_
  try simp only [Act.put,PuA]
  refine wpAnyIn_take (i:=18) (oi:=⟨some 31,.load 3 (.tmp 30),3,"sim.go:188",#[⟨17,.data⟩,⟨13,.guard⟩],some (13,true)⟩) (v:=undef) rfl rfl (by kernel_rfl) (by kernel_rfl) (by kernel_rfl) (fun _ _ _ h=>h) ⟨Or.inr ⟨by rfl,rfl⟩,fun _=>rfl⟩ ?_
  try simp only [Act.put,PuA]
  refine wpAnyIn_take (i:=19) (oi:=⟨some 32,.call { callee:=.value (.tmp 27),args:=#[.tmp 31],argTypes:=#[3] },4,"sim.go:188",#[⟨14,.data⟩,⟨18,.data⟩,⟨13,.chain⟩,⟨13,.guard⟩],some (13,true)⟩) (v:=undef) rfl rfl (by kernel_rfl) (by kernel_rfl) (by kernel_rfl) (fun _ _ _ h=>h) ⟨Or.inr ⟨by rfl,rfl⟩,fun _=>rfl⟩ ?_
  try simp only [Act.put,PuA]
  refine wpAnyIn_take (i:=20) (oi:=⟨some 33,.unOp .not 4 (.tmp 32),4,"sim.go:188",#[⟨19,.data⟩,⟨13,.guard⟩],some (13,true)⟩) (v:=undef) rfl rfl (by kernel_rfl) (by kernel_rfl) (by kernel_rfl) (fun _ _ _ h=>h) ⟨Or.inr ⟨by rfl,rfl⟩,fun _=>rfl⟩ ?_
  try simp only [Act.put,PuA]
  refine wpAnyIn_take (i:=21) (oi:=⟨some 34,.pick (.tmp 26) (.tmp 33) (.const (.bool false)),4,"sim.go:188",#[⟨13,.data⟩,⟨20,.data⟩],none⟩) (v:=?_) rfl rfl (by kernel_rfl) (by kernel_rfl) (by kernel_rfl) (fun _ _ _ h=>h) ⟨Or.inl ⟨by rfl,?_⟩,fun _=>rfl⟩ ?_
  rotate_left
  ·intro w'
   go_simp
   try with_reducible rfl
  try simp only [Act.put,PuA]
  refine wpAnyIn_done (by kernel_rfl) ?_ _
  refine NoPanic.normal ?_
  exact h.out _ (hD.trans B4)
set_option maxRecDepth 100000 in
theorem reg85_c (l0 n0:Nat)(w:World)(b o gb gy l:Nat)(q:Ins)(bt:Nat)(hC0:∀ w',Below w.heap.size w w'->w'.cell? ⟨b,o,none⟩=some (.int .i64 q.op)/\(loadVar 24 ⟨b,o+1,none⟩).run Tryz.prog w'=.ok (Zbf q.s) w'/\w'.cell? ⟨b,o+5,none⟩=some (.int .i64 q.x)/\w'.cell? ⟨gb,0,none⟩=some (.int .u8 (bt:Int))/\w'.cell? ⟨gy,0,none⟩=some (.func (.yield l) #[] #[]))(hop:(q.op == 1)=true)(hs:OkS q.s)(hbt:bt<256)(hin:inS q.s bt=true)(R:Ending->World->Prop)(hY0:∀ w',Below w.heap.size w w'->YieldAt Fence.wide (n0 - 1) Tryz.prog l #[.int .i64 q.x] w' R)
  (u0 u1 u2 u5 u7 u8 u9 u10 u11 u12 u13 u14 u15 u16 u17 u18 u19 u20 u21 u22 u23 u24 u25 u26 u27 u28 u29 u30 u31 u32 u33 u34:Value) (Q:Exit->Act->World->Prop)
  (h:∀ e W',R e W'->∃ bb,e=.returned (.bool bb)/\Q .normal { tmps:=(List.toArray ((u0::u1::u2::.pointer (some ⟨gb,0,none⟩)::.pointer (some ⟨gy,0,none⟩)::u5::.pointer (some ⟨b,o,none⟩)::u7::u8::u9::u10::u11::u12::.pointer (some ⟨b,o,none⟩)::.pointer (some ⟨b,o,none⟩)::.pointer (some ⟨b,o,none⟩)::.int .i64 q.op::.bool true::.bool true::.pointer (some ⟨b,o,none⟩)::.pointer (some ⟨b,o,none⟩)::.pointer (some ⟨b,o+1,none⟩)::Zbf q.s::.int .u8 (bt:Int)::.bool true::.bool true::.bool true::.func (.yield l) #[] #[]::.pointer (some ⟨b,o,none⟩)::.pointer (some ⟨b,o,none⟩)::.pointer (some ⟨b,o+5,none⟩)::.int .i64 q.x::.bool bb::.bool (!bb)::.bool (!bb)::[]):List Value)),defers:=[] } W') :
  (Code.region 4 #[⟨some 13,.move (.tmp 6),233,"sim.go:188",#[],none⟩,⟨some 14,.nilCheck (.tmp 13),0,"sim.go:188",#[⟨0,.data⟩],none⟩,⟨some 15,.fieldAddr 182 (.tmp 14) 0,0,"sim.go:188",#[⟨1,.data⟩],none⟩,⟨some 16,.load 3 (.tmp 15),3,"sim.go:188",#[⟨2,.data⟩],none⟩,⟨some 17,.binOp .eql 3 (.tmp 16) (.const (.int .i64 1)) 3,4,"sim.go:188",#[⟨3,.data⟩],none⟩,⟨some 18,.move (.tmp 17),4,"sim.go:188",#[⟨4,.data⟩],none⟩,⟨some 19,.move (.tmp 6),233,"sim.go:188",#[⟨5,.guard⟩],some (5,true)⟩,⟨some 20,.nilCheck (.tmp 19),0,"sim.go:188",#[⟨6,.data⟩,⟨5,.guard⟩],some (5,true)⟩,⟨some 21,.fieldAddr 182 (.tmp 20) 1,0,"sim.go:188",#[⟨7,.data⟩,⟨5,.guard⟩],some (5,true)⟩,⟨some 22,.load 24 (.tmp 21),24,"sim.go:188",#[⟨8,.data⟩,⟨5,.guard⟩],some (5,true)⟩,⟨some 23,.load 5 (.tmp 3),5,"sim.go:188",#[⟨5,.guard⟩],some (5,true)⟩,⟨some 24,.call { callee:=.value (.func 134),args:=#[.tmp 22,.tmp 23],argTypes:=#[24,5] },4,"sim.go:188",#[⟨9,.data⟩,⟨10,.data⟩,⟨5,.chain⟩,⟨5,.guard⟩],some (5,true)⟩,⟨some 25,.pick (.tmp 18) (.tmp 24) (.const (.bool false)),4,"sim.go:188",#[⟨5,.data⟩,⟨11,.data⟩],none⟩,⟨some 26,.move (.tmp 25),4,"sim.go:188",#[⟨12,.data⟩,⟨11,.chain⟩],none⟩,⟨some 27,.load 231 (.tmp 4),231,"sim.go:188",#[⟨13,.guard⟩],some (13,true)⟩,⟨some 28,.move (.tmp 6),233,"sim.go:188",#[⟨13,.guard⟩],some (13,true)⟩,⟨some 29,.nilCheck (.tmp 28),0,"sim.go:188",#[⟨15,.data⟩,⟨13,.guard⟩],some (13,true)⟩,⟨some 30,.fieldAddr 182 (.tmp 29) 2,0,"sim.go:188",#[⟨16,.data⟩,⟨13,.guard⟩],some (13,true)⟩,⟨some 31,.load 3 (.tmp 30),3,"sim.go:188",#[⟨17,.data⟩,⟨13,.guard⟩],some (13,true)⟩,⟨some 32,.call { callee:=.value (.tmp 27),args:=#[.tmp 31],argTypes:=#[3] },4,"sim.go:188",#[⟨14,.data⟩,⟨18,.data⟩,⟨13,.chain⟩,⟨13,.guard⟩],some (13,true)⟩,⟨some 33,.unOp .not 4 (.tmp 32),4,"sim.go:188",#[⟨19,.data⟩,⟨13,.guard⟩],some (13,true)⟩,⟨some 34,.pick (.tmp 26) (.tmp 33) (.const (.bool false)),4,"sim.go:188",#[⟨13,.data⟩,⟨20,.data⟩],none⟩] true).wpIn (Fence.wide.inRound l0) n0 Tryz.prog Q { tmps:=(List.toArray ((u0::u1::u2::.pointer (some ⟨gb,0,none⟩)::.pointer (some ⟨gy,0,none⟩)::u5::.pointer (some ⟨b,o,none⟩)::u7::u8::u9::u10::u11::u12::u13::u14::u15::u16::u17::u18::u19::u20::u21::u22::u23::u24::u25::u26::u27::u28::u29::u30::u31::u32::u33::u34::[]):List Value)),defers:=[] } w:=by
 have hD:Below w.heap.size w w.drew:=(Below.refl _ w).drew
 have hC:=Zaa hC0
 clear hC0
 have hY:=Zaa hY0
 clear hY0
 replace h:=Zaa h
 refine Code.wpIn_mono NoPanic.imp ?_
 refine wpIn_region_any (by kernel_rfl) ?_
 change wpAnyIn _ _ _ _ _ _ _ _ _ (World.drew w)
 refine ZbN l0 (ZeQ _ (by kernel_rfl)) _ _ _ _ ?_
 refine wpAnyIn_take (i:=0) (oi:=⟨some 13,.move (.tmp 6),233,"sim.go:188",#[],none⟩) (v:=?_) rfl rfl (by kernel_rfl) (by kernel_rfl) (by kernel_rfl) (fun _ _ _ h=>h) ⟨Or.inl ⟨by rfl,?_⟩,fun _=>rfl⟩ ?_
 rotate_left
 ·intro w'
  go_simp
  try with_reducible rfl
 try simp only [Act.put,PuA]
 refine wpAnyIn_take (i:=1) (oi:=⟨some 14,.nilCheck (.tmp 13),0,"sim.go:188",#[⟨0,.data⟩],none⟩) (v:=?_) rfl rfl (by kernel_rfl) (by kernel_rfl) (by kernel_rfl) (fun _ _ _ h=>h) ⟨Or.inl ⟨by rfl,?_⟩,fun _=>rfl⟩ ?_
 rotate_left
 ·intro w'
  go_simp
  try with_reducible rfl
 try simp only [Act.put,PuA]
 refine wpAnyIn_take (i:=2) (oi:=⟨some 15,.fieldAddr 182 (.tmp 14) 0,0,"sim.go:188",#[⟨1,.data⟩],none⟩) (v:=?_) rfl rfl (by kernel_rfl) (by kernel_rfl) (by kernel_rfl) (fun _ _ _ h=>h) ⟨Or.inl ⟨by rfl,?_⟩,fun _=>rfl⟩ ?_
 rotate_left
 ·intro w'
  go_simp
  try with_reducible rfl
 try simp only [Act.put,PuA]
 refine wpAnyIn_ready (rs:=[3]) (by kernel_rfl) (by simp) ?_
 refine (AllReadyIn.cons (o:=⟨some 16,.load 3 (.tmp 15),3,"sim.go:188",#[⟨2,.data⟩],none⟩) rfl (fun K3 hK3=>?_) AllReadyIn.nil)
 refine ZaJ 3 Zad rfl (by rfl) rfl (ld3 (hC.out _ hD).1) (hK3 _ _ ?_)
 clear hK3 K3
 try simp only [Act.put,PuA]
 refine wpAnyIn_take (i:=4) (oi:=⟨some 17,.binOp .eql 3 (.tmp 16) (.const (.int .i64 1)) 3,4,"sim.go:188",#[⟨3,.data⟩],none⟩) (v:=?_) rfl rfl (by kernel_rfl) (by kernel_rfl) (by kernel_rfl) (fun _ _ _ h=>h) ⟨Or.inl ⟨by rfl,?_⟩,fun _=>rfl⟩ ?_
 rotate_left
 ·intro w'
  go_simp
  try with_reducible rfl
 try simp only [Act.put,PuA]
 refine wpAnyIn_take (i:=5) (oi:=⟨some 18,.move (.tmp 17),4,"sim.go:188",#[⟨4,.data⟩],none⟩) (v:=?_) rfl rfl (by kernel_rfl) (by kernel_rfl) (by kernel_rfl) (fun _ _ _ h=>h) ⟨Or.inl ⟨by rfl,?_⟩,fun _=>rfl⟩ ?_
 rotate_left
 ·intro w'
  go_simp
  try with_reducible rfl
 try simp only [Act.put,PuA]
 refine wpAnyIn_take (i:=6) (oi:=⟨some 19,.move (.tmp 6),233,"sim.go:188",#[⟨5,.guard⟩],some (5,true)⟩) (v:=?_) rfl rfl (by kernel_rfl) (by kernel_rfl) (by kernel_rfl) (fun _ _ _ h=>h) ⟨Or.inl ⟨by rfl,?_⟩,fun _=>rfl⟩ ?_
 rotate_left
 ·intro w'
  go_simp
  try with_reducible rfl
 try simp only [Act.put,PuA]
 refine wpAnyIn_take (i:=7) (oi:=⟨some 20,.nilCheck (.tmp 19),0,"sim.go:188",#[⟨6,.data⟩,⟨5,.guard⟩],some (5,true)⟩) (v:=?_) rfl rfl (by kernel_rfl) (by kernel_rfl) (by kernel_rfl) (fun _ _ _ h=>h) ⟨Or.inl ⟨by rfl,?_⟩,fun _=>rfl⟩ ?_
 rotate_left
 ·intro w'
  go_simp
  try with_reducible rfl
 try simp only [Act.put,PuA]
 refine wpAnyIn_take (i:=8) (oi:=⟨some 21,.fieldAddr 182 (.tmp 20) 1,0,"sim.go:188",#[⟨7,.data⟩,⟨5,.guard⟩],some (5,true)⟩) (v:=?_) rfl rfl (by kernel_rfl) (by kernel_rfl) (by kernel_rfl) (fun _ _ _ h=>h) ⟨Or.inl ⟨by rfl,?_⟩,fun _=>rfl⟩ ?_
 rotate_left
 ·intro w'
  go_simp
  try with_reducible rfl
 try simp only [Act.put,PuA]
 refine wpAnyIn_ready (rs:=[9,10]) (by kernel_rfl) (by simp) ?_
 refine (AllReadyIn.cons (o:=⟨some 22,.load 24 (.tmp 21),24,"sim.go:188",#[⟨8,.data⟩,⟨5,.guard⟩],some (5,true)⟩) rfl (fun K9 hK9=>?_) (AllReadyIn.cons (o:=⟨some 23,.load 5 (.tmp 3),5,"sim.go:188",#[⟨5,.guard⟩],some (5,true)⟩) rfl (fun K10 hK10=>?_) AllReadyIn.nil))
 ·refine ZaJ 24 Zad rfl (by rfl) rfl ((hC.out _ hD).2.1) (hK9 _ _ ?_)
  clear hK9 K9
  try simp only [Act.put,PuA]
  refine wpAnyIn_ready (rs:=[10]) (by kernel_rfl) (by simp) ?_
  refine (AllReadyIn.cons (o:=⟨some 23,.load 5 (.tmp 3),5,"sim.go:188",#[⟨5,.guard⟩],some (5,true)⟩) rfl (fun K10 hK10=>?_) AllReadyIn.nil)
  refine ZaJ 5 Zad rfl (by rfl) rfl (ld5 (hC.out _ hD).2.2.2.1) (hK10 _ _ ?_)
  clear hK10 K10
  try simp only [Act.put,PuA]
  refine wpAnyIn_ready (rs:=[11]) (by kernel_rfl) (by simp) ?_
  refine (AllReadyIn.cons (o:=⟨some 24,.call { callee:=.value (.func 134),args:=#[.tmp 22,.tmp 23],argTypes:=#[24,5] },4,"sim.go:188",#[⟨9,.data⟩,⟨10,.data⟩,⟨5,.chain⟩,⟨5,.guard⟩],some (5,true)⟩) rfl (fun K11 hK11=>?_) AllReadyIn.nil)
  go_simp
  refine⟨trivial,fun h=>(by cases h),(callsIn_wide.2 (ZmD q.s hs bt hbt _)).mono ?_⟩
  rintro e w4 ⟨rfl,B4⟩
  replace B4:Below w.heap.size w.drew w4:=B4
  rw [hin]
  refine hK11 _ _ ?_
  clear hK11 K11
  try simp only [Act.put,PuA]
  refine wpAnyIn_take (i:=12) (oi:=⟨some 25,.pick (.tmp 18) (.tmp 24) (.const (.bool false)),4,"sim.go:188",#[⟨5,.data⟩,⟨11,.data⟩],none⟩) (v:=?_) rfl rfl (by kernel_rfl) (by kernel_rfl) (by kernel_rfl) (fun _ _ _ h=>h) ⟨Or.inl ⟨by rfl,?_⟩,fun _=>rfl⟩ ?_
  rotate_left
  ·intro w'
   go_simp
   try with_reducible rfl
  try simp only [Act.put,PuA]
  refine wpAnyIn_take (i:=13) (oi:=⟨some 26,.move (.tmp 25),4,"sim.go:188",#[⟨12,.data⟩,⟨11,.chain⟩],none⟩) (v:=?_) rfl rfl (by kernel_rfl) (by kernel_rfl) (by kernel_rfl) (fun _ _ _ h=>h) ⟨Or.inl ⟨by rfl,?_⟩,fun _=>rfl⟩ ?_
  rotate_left
  ·intro w'
   go_simp
   try with_reducible rfl
  try simp only [Act.put,PuA]
  refine wpAnyIn_take (i:=15) (oi:=⟨some 28,.move (.tmp 6),233,"sim.go:188",#[⟨13,.guard⟩],some (13,true)⟩) (v:=?_) rfl rfl (by kernel_rfl) (by kernel_rfl) (by kernel_rfl) (fun _ _ _ h=>h) ⟨Or.inl ⟨by rfl,?_⟩,fun _=>rfl⟩ ?_
  rotate_left
  ·intro w'
   go_simp
   try with_reducible rfl
  try simp only [Act.put,PuA]
  refine wpAnyIn_take (i:=16) (oi:=⟨some 29,.nilCheck (.tmp 28),0,"sim.go:188",#[⟨15,.data⟩,⟨13,.guard⟩],some (13,true)⟩) (v:=?_) rfl rfl (by kernel_rfl) (by kernel_rfl) (by kernel_rfl) (fun _ _ _ h=>h) ⟨Or.inl ⟨by rfl,?_⟩,fun _=>rfl⟩ ?_
  rotate_left
  ·intro w'
   go_simp
   try with_reducible rfl
  try simp only [Act.put,PuA]
  refine wpAnyIn_take (i:=17) (oi:=⟨some 30,.fieldAddr 182 (.tmp 29) 2,0,"sim.go:188",#[⟨16,.data⟩,⟨13,.guard⟩],some (13,true)⟩) (v:=?_) rfl rfl (by kernel_rfl) (by kernel_rfl) (by kernel_rfl) (fun _ _ _ h=>h) ⟨Or.inl ⟨by rfl,?_⟩,fun _=>rfl⟩ ?_
  rotate_left
  ·intro w'
   go_simp
   try with_reducible rfl
  try simp only [Act.put,PuA]
  refine wpAnyIn_ready (rs:=[14,18]) (by kernel_rfl) (by simp) ?_
  refine (AllReadyIn.cons (o:=⟨some 27,.load 231 (.tmp 4),231,"sim.go:188",#[⟨13,.guard⟩],some (13,true)⟩) rfl (fun K14 hK14=>?_) (AllReadyIn.cons (o:=⟨some 31,.load 3 (.tmp 30),3,"sim.go:188",#[⟨17,.data⟩,⟨13,.guard⟩],some (13,true)⟩) rfl (fun K18 hK18=>?_) AllReadyIn.nil))
  ·refine ZaJ 231 Zad rfl (by rfl) rfl (ld129 (hC.out _ (hD.trans B4)).2.2.2.2) (hK14 _ _ ?_)
   clear hK14 K14
   try simp only [Act.put,PuA]
   refine wpAnyIn_ready (rs:=[18]) (by kernel_rfl) (by simp) ?_
   refine (AllReadyIn.cons (o:=⟨some 31,.load 3 (.tmp 30),3,"sim.go:188",#[⟨17,.data⟩,⟨13,.guard⟩],some (13,true)⟩) rfl (fun K18 hK18=>?_) AllReadyIn.nil)
   refine ZaJ 3 Zad rfl (by rfl) rfl (ld3 (hC.out _ (hD.trans B4)).2.2.1) (hK18 _ _ ?_)
   clear hK18 K18
   try simp only [Act.put,PuA]
   refine wpAnyIn_ready (rs:=[19]) (by kernel_rfl) (by simp) ?_
   refine (AllReadyIn.cons (o:=⟨some 32,.call { callee:=.value (.tmp 27),args:=#[.tmp 31],argTypes:=#[3] },4,"sim.go:188",#[⟨14,.data⟩,⟨18,.data⟩,⟨13,.chain⟩,⟨13,.guard⟩],some (13,true)⟩) rfl (fun K19 hK19=>?_) AllReadyIn.nil)
   obtain⟨fn,tmps,assign,body,hy,hR⟩:=hY.out w4 (hD.trans B4)
   go_simp
   refine⟨fun h=>(by cases h),hR.mono ?_⟩
   rintro e W3 hRe
   obtain⟨bb,rfl,hq⟩:=h.out _ _ hRe
   refine hK19 _ _ ?_
   clear hK19 K19
   try simp only [Act.put,PuA]
   refine wpAnyIn_take (i:=20) (oi:=⟨some 33,.unOp .not 4 (.tmp 32),4,"sim.go:188",#[⟨19,.data⟩,⟨13,.guard⟩],some (13,true)⟩) (v:=?_) rfl rfl (by kernel_rfl) (by kernel_rfl) (by kernel_rfl) (fun _ _ _ h=>h) ⟨Or.inl ⟨by rfl,?_⟩,fun _=>rfl⟩ ?_
   rotate_left
   ·intro w'
    go_simp
    try with_reducible rfl
   try simp only [Act.put,PuA]
   refine wpAnyIn_take (i:=21) (oi:=⟨some 34,.pick (.tmp 26) (.tmp 33) (.const (.bool false)),4,"sim.go:188",#[⟨13,.data⟩,⟨20,.data⟩],none⟩) (v:=?_) rfl rfl (by kernel_rfl) (by kernel_rfl) (by kernel_rfl) (fun _ _ _ h=>h) ⟨Or.inl ⟨by rfl,?_⟩,fun _=>rfl⟩ ?_
   rotate_left
   ·intro w'
    go_simp
    try with_reducible rfl
   try simp only [Act.put,PuA]
   refine wpAnyIn_done (by kernel_rfl) ?_ _
   refine NoPanic.normal ?_
   exact hq
  ·refine ZaJ 3 Zad rfl (by rfl) rfl (ld3 (hC.out _ (hD.trans B4)).2.2.1) (hK18 _ _ ?_)
   clear hK18 K18
   try simp only [Act.put,PuA]
   refine wpAnyIn_ready (rs:=[14]) (by kernel_rfl) (by simp) ?_
   refine (AllReadyIn.cons (o:=⟨some 27,.load 231 (.tmp 4),231,"sim.go:188",#[⟨13,.guard⟩],some (13,true)⟩) rfl (fun K14 hK14=>?_) AllReadyIn.nil)
   refine ZaJ 231 Zad rfl (by rfl) rfl (ld129 (hC.out _ (hD.trans B4)).2.2.2.2) (hK14 _ _ ?_)
   clear hK14 K14
   try simp only [Act.put,PuA]
   refine wpAnyIn_ready (rs:=[19]) (by kernel_rfl) (by simp) ?_
   refine (AllReadyIn.cons (o:=⟨some 32,.call { callee:=.value (.tmp 27),args:=#[.tmp 31],argTypes:=#[3] },4,"sim.go:188",#[⟨14,.data⟩,⟨18,.data⟩,⟨13,.chain⟩,⟨13,.guard⟩],some (13,true)⟩) rfl (fun K19 hK19=>?_) AllReadyIn.nil)
   obtain⟨fn,tmps,assign,body,hy,hR⟩:=hY.out w4 (hD.trans B4)
   go_simp
   refine⟨fun h=>(by cases h),hR.mono ?_⟩
   rintro e W3 hRe
   obtain⟨bb,rfl,hq⟩:=h.out _ _ hRe
   refine hK19 _ _ ?_
   clear hK19 K19
   try simp only [Act.put,PuA]
   refine wpAnyIn_take (i:=20) (oi:=⟨some 33,.unOp .not 4 (.tmp 32),4,"sim.go:188",#[⟨19,.data⟩,⟨13,.guard⟩],some (13,true)⟩) (v:=?_) rfl rfl (by kernel_rfl) (by kernel_rfl) (by kernel_rfl) (fun _ _ _ h=>h) ⟨Or.inl ⟨by rfl,?_⟩,fun _=>rfl⟩ ?_
   rotate_left
   ·intro w'
    go_simp
    try with_reducible rfl
   try simp only [Act.put,PuA]
   refine wpAnyIn_take (i:=21) (oi:=⟨some 34,.pick (.tmp 26) (.tmp 33) (.const (.bool false)),4,"sim.go:188",#[⟨13,.data⟩,⟨20,.data⟩],none⟩) (v:=?_) rfl rfl (by kernel_rfl) (by kernel_rfl) (by kernel_rfl) (fun _ _ _ h=>h) ⟨Or.inl ⟨by rfl,?_⟩,fun _=>rfl⟩ ?_
   rotate_left
   ·intro w'
    go_simp
    try with_reducible rfl
   try simp only [Act.put,PuA]
   refine wpAnyIn_done (by kernel_rfl) ?_ _
   refine NoPanic.normal ?_
   exact hq
 ·refine ZaJ 5 Zad rfl (by rfl) rfl (ld5 (hC.out _ hD).2.2.2.1) (hK10 _ _ ?_)
  clear hK10 K10
  try simp only [Act.put,PuA]
  refine wpAnyIn_ready (rs:=[9]) (by kernel_rfl) (by simp) ?_
  refine (AllReadyIn.cons (o:=⟨some 22,.load 24 (.tmp 21),24,"sim.go:188",#[⟨8,.data⟩,⟨5,.guard⟩],some (5,true)⟩) rfl (fun K9 hK9=>?_) AllReadyIn.nil)
  refine ZaJ 24 Zad rfl (by rfl) rfl ((hC.out _ hD).2.1) (hK9 _ _ ?_)
  clear hK9 K9
  try simp only [Act.put,PuA]
  refine wpAnyIn_ready (rs:=[11]) (by kernel_rfl) (by simp) ?_
  refine (AllReadyIn.cons (o:=⟨some 24,.call { callee:=.value (.func 134),args:=#[.tmp 22,.tmp 23],argTypes:=#[24,5] },4,"sim.go:188",#[⟨9,.data⟩,⟨10,.data⟩,⟨5,.chain⟩,⟨5,.guard⟩],some (5,true)⟩) rfl (fun K11 hK11=>?_) AllReadyIn.nil)
  go_simp
  refine⟨trivial,fun h=>(by cases h),(callsIn_wide.2 (ZmD q.s hs bt hbt _)).mono ?_⟩
  rintro e w4 ⟨rfl,B4⟩
  replace B4:Below w.heap.size w.drew w4:=B4
  rw [hin]
  refine hK11 _ _ ?_
  clear hK11 K11
  try simp only [Act.put,PuA]
  refine wpAnyIn_take (i:=12) (oi:=⟨some 25,.pick (.tmp 18) (.tmp 24) (.const (.bool false)),4,"sim.go:188",#[⟨5,.data⟩,⟨11,.data⟩],none⟩) (v:=?_) rfl rfl (by kernel_rfl) (by kernel_rfl) (by kernel_rfl) (fun _ _ _ h=>h) ⟨Or.inl ⟨by rfl,?_⟩,fun _=>rfl⟩ ?_
  rotate_left
  ·intro w'
   go_simp
   try with_reducible rfl
  try simp only [Act.put,PuA]
  refine wpAnyIn_take (i:=13) (oi:=⟨some 26,.move (.tmp 25),4,"sim.go:188",#[⟨12,.data⟩,⟨11,.chain⟩],none⟩) (v:=?_) rfl rfl (by kernel_rfl) (by kernel_rfl) (by kernel_rfl) (fun _ _ _ h=>h) ⟨Or.inl ⟨by rfl,?_⟩,fun _=>rfl⟩ ?_
  rotate_left
  ·intro w'
   go_simp
   try with_reducible rfl
  try simp only [Act.put,PuA]
  refine wpAnyIn_take (i:=15) (oi:=⟨some 28,.move (.tmp 6),233,"sim.go:188",#[⟨13,.guard⟩],some (13,true)⟩) (v:=?_) rfl rfl (by kernel_rfl) (by kernel_rfl) (by kernel_rfl) (fun _ _ _ h=>h) ⟨Or.inl ⟨by rfl,?_⟩,fun _=>rfl⟩ ?_
  rotate_left
  ·intro w'
   go_simp
   try with_reducible rfl
  try simp only [Act.put,PuA]
  refine wpAnyIn_take (i:=16) (oi:=⟨some 29,.nilCheck (.tmp 28),0,"sim.go:188",#[⟨15,.data⟩,⟨13,.guard⟩],some (13,true)⟩) (v:=?_) rfl rfl (by kernel_rfl) (by kernel_rfl) (by kernel_rfl) (fun _ _ _ h=>h) ⟨Or.inl ⟨by rfl,?_⟩,fun _=>rfl⟩ ?_
  rotate_left
  ·intro w'
   go_simp
   try with_reducible rfl
  try simp only [Act.put,PuA]
  refine wpAnyIn_take (i:=17) (oi:=⟨some 30,.fieldAddr 182 (.tmp 29) 2,0,"sim.go:188",#[⟨16,.data⟩,⟨13,.guard⟩],some (13,true)⟩) (v:=?_) rfl rfl (by kernel_rfl) (by kernel_rfl) (by kernel_rfl) (fun _ _ _ h=>h) ⟨Or.inl ⟨by rfl,?_⟩,fun _=>rfl⟩ ?_
  rotate_left
  ·intro w'
   go_simp
   try with_reducible rfl
  try simp only [Act.put,PuA]
  refine wpAnyIn_ready (rs:=[14,18]) (by kernel_rfl) (by simp) ?_
  refine (AllReadyIn.cons (o:=⟨some 27,.load 231 (.tmp 4),231,"sim.go:188",#[⟨13,.guard⟩],some (13,true)⟩) rfl (fun K14 hK14=>?_) (AllReadyIn.cons (o:=⟨some 31,.load 3 (.tmp 30),3,"sim.go:188",#[⟨17,.data⟩,⟨13,.guard⟩],some (13,true)⟩) rfl (fun K18 hK18=>?_) AllReadyIn.nil))
  ·refine ZaJ 231 Zad rfl (by rfl) rfl (ld129 (hC.out _ (hD.trans B4)).2.2.2.2) (hK14 _ _ ?_)
   clear hK14 K14
   try simp only [Act.put,PuA]
   refine wpAnyIn_ready (rs:=[18]) (by kernel_rfl) (by simp) ?_
   refine (AllReadyIn.cons (o:=⟨some 31,.load 3 (.tmp 30),3,"sim.go:188",#[⟨17,.data⟩,⟨13,.guard⟩],some (13,true)⟩) rfl (fun K18 hK18=>?_) AllReadyIn.nil)
   refine ZaJ 3 Zad rfl (by rfl) rfl (ld3 (hC.out _ (hD.trans B4)).2.2.1) (hK18 _ _ ?_)
   clear hK18 K18
   try simp only [Act.put,PuA]
   refine wpAnyIn_ready (rs:=[19]) (by kernel_rfl) (by simp) ?_
   refine (AllReadyIn.cons (o:=⟨some 32,.call { callee:=.value (.tmp 27),args:=#[.tmp 31],argTypes:=#[3] },4,"sim.go:188",#[⟨14,.data⟩,⟨18,.data⟩,⟨13,.chain⟩,⟨13,.guard⟩],some (13,true)⟩) rfl (fun K19 hK19=>?_) AllReadyIn.nil)
   obtain⟨fn,tmps,assign,body,hy,hR⟩:=hY.out w4 (hD.trans B4)
   go_simp
   refine⟨fun h=>(by cases h),hR.mono ?_⟩
   rintro e W3 hRe
   obtain⟨bb,rfl,hq⟩:=h.out _ _ hRe
   refine hK19 _ _ ?_
   clear hK19 K19
   try simp only [Act.put,PuA]
   refine wpAnyIn_take (i:=20) (oi:=⟨some 33,.unOp .not 4 (.tmp 32),4,"sim.go:188",#[⟨19,.data⟩,⟨13,.guard⟩],some (13,true)⟩) (v:=?_) rfl rfl (by kernel_rfl) (by kernel_rfl) (by kernel_rfl) (fun _ _ _ h=>h) ⟨Or.inl ⟨by rfl,?_⟩,fun _=>rfl⟩ ?_
   rotate_left
   ·intro w'
    go_simp
    try with_reducible rfl
   try simp only [Act.put,PuA]
   refine wpAnyIn_take (i:=21) (oi:=⟨some 34,.pick (.tmp 26) (.tmp 33) (.const (.bool false)),4,"sim.go:188",#[⟨13,.data⟩,⟨20,.data⟩],none⟩) (v:=?_) rfl rfl (by kernel_rfl) (by kernel_rfl) (by kernel_rfl) (fun _ _ _ h=>h) ⟨Or.inl ⟨by rfl,?_⟩,fun _=>rfl⟩ ?_
   rotate_left
   ·intro w'
    go_simp
    try with_reducible rfl
   try simp only [Act.put,PuA]
   refine wpAnyIn_done (by kernel_rfl) ?_ _
   refine NoPanic.normal ?_
   exact hq
  ·refine ZaJ 3 Zad rfl (by rfl) rfl (ld3 (hC.out _ (hD.trans B4)).2.2.1) (hK18 _ _ ?_)
   clear hK18 K18
   try simp only [Act.put,PuA]
   refine wpAnyIn_ready (rs:=[14]) (by kernel_rfl) (by simp) ?_
   refine (AllReadyIn.cons (o:=⟨some 27,.load 231 (.tmp 4),231,"sim.go:188",#[⟨13,.guard⟩],some (13,true)⟩) rfl (fun K14 hK14=>?_) AllReadyIn.nil)
   refine ZaJ 231 Zad rfl (by rfl) rfl (ld129 (hC.out _ (hD.trans B4)).2.2.2.2) (hK14 _ _ ?_)
   clear hK14 K14
   try simp only [Act.put,PuA]
   refine wpAnyIn_ready (rs:=[19]) (by kernel_rfl) (by simp) ?_
   refine (AllReadyIn.cons (o:=⟨some 32,.call { callee:=.value (.tmp 27),args:=#[.tmp 31],argTypes:=#[3] },4,"sim.go:188",#[⟨14,.data⟩,⟨18,.data⟩,⟨13,.chain⟩,⟨13,.guard⟩],some (13,true)⟩) rfl (fun K19 hK19=>?_) AllReadyIn.nil)
   obtain⟨fn,tmps,assign,body,hy,hR⟩:=hY.out w4 (hD.trans B4)
   go_simp
   refine⟨fun h=>(by cases h),hR.mono ?_⟩
   rintro e W3 hRe
   obtain⟨bb,rfl,hq⟩:=h.out _ _ hRe
   refine hK19 _ _ ?_
   clear hK19 K19
   try simp only [Act.put,PuA]
   refine wpAnyIn_take (i:=20) (oi:=⟨some 33,.unOp .not 4 (.tmp 32),4,"sim.go:188",#[⟨19,.data⟩,⟨13,.guard⟩],some (13,true)⟩) (v:=?_) rfl rfl (by kernel_rfl) (by kernel_rfl) (by kernel_rfl) (fun _ _ _ h=>h) ⟨Or.inl ⟨by rfl,?_⟩,fun _=>rfl⟩ ?_
   rotate_left
   ·intro w'
    go_simp
    try with_reducible rfl
   try simp only [Act.put,PuA]
   refine wpAnyIn_take (i:=21) (oi:=⟨some 34,.pick (.tmp 26) (.tmp 33) (.const (.bool false)),4,"sim.go:188",#[⟨13,.data⟩,⟨20,.data⟩],none⟩) (v:=?_) rfl rfl (by kernel_rfl) (by kernel_rfl) (by kernel_rfl) (fun _ _ _ h=>h) ⟨Or.inl ⟨by rfl,?_⟩,fun _=>rfl⟩ ?_
   rotate_left
   ·intro w'
    go_simp
    try with_reducible rfl
   try simp only [Act.put,PuA]
   refine wpAnyIn_done (by kernel_rfl) ?_ _
   refine NoPanic.normal ?_
   exact hq
end
section
open Go.RowKit Go.Shelf
attribute [local go_sem] Oper.semAt_some
def encN {Pr:Nat->Prop}(x:{ i:Nat // Pr i }):Array Value:=#[.int .i64 (x.1:Int)]
theorem ld105 {w:World}{ad:Addr}{v:Value}(h:w.cell? ad=some v):(loadVar 176 ad).run Tryz.prog w=.ok v w:=by
 have ha:∀ w,(isAgg 176).run Tryz.prog w=.ok false w:=fun w=>by kernel_rfl
 simp [loadVar,ha,go_sem,h]
section
variable {F:Fence}{n:Nat}{w w':World}{ops:Array Oper}{rest:List Oper}{a:Act}{Q:Exit->Act->World->Prop}{dst:Option Nat}{x y:Operand}{ty:TypeId}{pos:String}{after:Array Edge}
theorem ZmG (t:TypeId)(h:wpListIn F n Tryz.prog ops Q (⟨dst,.index t x y,ty,pos,after,none⟩::rest) a w):wpListIn F n Tryz.prog ops Q (⟨dst,.index t x y,ty,pos,after,none⟩::rest) a w:=h
theorem ZiM (hF:∀ f,F.fn f){W:List Nat}{k:Nat}{v:Value}(hx:a.eval x=.agg (wA W))(hy:a.eval y=.int .i64 (k:Int))(hk:k<32)(hv:(wA W)[k]?=some v)(h:wpListIn F n Tryz.prog ops Q rest (a.put dst v) w):wpListIn F n Tryz.prog ops Q (⟨dst,.index 170 x y,ty,pos,after,none⟩::rest) a w:=by
 have hz:∀ w,(sizeOf 22).run Tryz.prog w=.ok 1 w:=fun w=>by kernel_rfl
 have hp:∀ w,(part 22 (wA W) (k * 1)).run Tryz.prog w=.ok v w:=fun w=>run_part_plain _ ZiI (by rw [Nat.mul_one];exact hv)
 have hb:0<=(k:Int)/\(k:Int)<(32:Nat):=by omega
 refine ZaF hF (fun c=>nofun) ?_ h
 unfold execOp
 simp only [hx,hy,Instr.index,asIntOf,Sem.run_bind,Sem.run_pure,Result.andThen_ok,run_underlying Tryz.underlying170,if_pos hb,hz,Int.toNat_natCast,hp]
end
theorem Tab.ko {B0:Nat}{X:Nat->Prop}{w w':World}(h:Tab w)(k:KO B0 X w w')(h0:0<B0)(hX:¬ X 0):Tab w':=fun i hi=>(World.cell?_of_block (k.2 0 h0 h.pos hX)).trans (h i hi)
theorem low_lt (x:Nat)(h:0<x):x &&& (x - 1)<x:=Nat.lt_of_le_of_lt Nat.and_le_right (by omega)
theorem ZmH (x:Nat)(h:0<x)(hx:x<18446744073709551616):bits BinOp.and IntKind.u64 (x:Int) ((x:Int) - 1)=((x &&& (x - 1):Nat):Int):=by
 rw [show (x:Int) - 1=((x - 1:Nat):Int) by omega]
 exact ZiH x (x - 1) hx (by omega)
set_option maxRecDepth 100000 in
theorem Zhx {Pr:Nat->Prop}(B0:Nat)(X:Nat->Prop)(n:Nat)(B g:Nat)(pre:Array Value)(t:TypeId)(W:List Nat)(hW:OkW W)(w:World)(hBb:w.heap[B]?=some (.cells #[.pointer (some ⟨g,pre.size,none⟩)] 176 (0,0)))(hg:w.heap[g]?=some (.cells (pA pre W) t (0,0)))(hT:Tab w)(hB0:0<B0)(hX:¬ X 0)(hPr:∀ i ∈ ZiG W,Pr i) :
  SeqStopsK Fence.wide n Tryz.prog 169 #[.pointer (some ⟨B,0,none⟩)] (encN (Pr:=Pr)) (KO B0 X) (fun xs=>xs.map (·.1)=ZiG W) (fun p=>p.map (·.1) <+: ZiG W) (ZiG W).length w:=fun l J Jx V hV hAJ hAJx hYY h0=>by
 have hBl:B<w.heap.size:=(Array.getElem?_eq_some_iff.1 hBb).1
 have hBV:=(hV.block B hBl).trans hBb
 have cB:=Zal hBV 0 (v:=.pointer (some ⟨g,pre.size,none⟩)) rfl
 have hgV:=(hV.block g (Array.getElem?_eq_some_iff.1 hg).1).trans hg
 have hl99:=Zaa (load99 hW hgV)
 have hTV:Hid (Tab V):=hT.below hV
 replace hYY:Hid _:=Zaa hYY
 replace hAJh:=Zaa hAJ
 replace h0:=Zaa h0
 replace hBV:=Zaa hBV
 have hlen:=hW.len
 have hlt:=Zaa hW.lt
 replace hPr:=Zaa hPr
 generalize hM:ZiG W=M at *
 replace hM:Hid (ZdG W 0 32=M):=hM
 generalize pre.size=o at *
 clear hV hgV hBb hg hT
 show CallsIn Fence.wide n Tryz.prog 169 #[.func (.yield l) #[] #[],.pointer (some ⟨B,0,none⟩)] V _
 refine callsIn_of_wp Tryz.func169 rfl trivial ?_ rfl
 simp only [Tryz.ntmps169,List.size_toArray,List.length_cons,List.length_nil,Nat.reduceAdd,Nat.reduceSub,Array.replicate_succ,Array.replicate_zero,List.push_toArray,List.append_toArray,List.nil_append,List.cons_append]
 gi_wp2_with (first|((with_reducible refine Zah 176 ?_);refine Zai 176 Zad rfl (ld105 cB) ?_)|((with_reducible refine Zah 170 ?_);refine Zai 170 Zad rfl hl99.out ?_))
 gi_loopw [9] (fun iv wr=>∃ (k:Nat) (xs:List { i:Nat // Pr i }),iv=.int .i64 ((k:Nat):Int)/\k<=32/\Hid (xs.map (·.1)++ZdG W k (32 - k)=M)/\Hid (J xs wr)/\Hid (KO B0 X V wr)) (fun iv _=>32 - (intOf iv).toNat)
 case atStart=>exact⟨0,[],rfl,by omega,hM,h0,KO.refl _ _ _⟩
 case round =>
  obtain⟨k,xs,rfl,hk,hxs,hJr,hkr⟩:=hrel
  by_cases hlt32:k<32
  ·have i1:(k:Int)<32:=by omega
   have hwk:(wA W)[k]?=some (.int .u64 ((W.getD k 0:Nat):Int)):=wA_at (by omega)
   have hsz:(wA W).size=32:=by rw [Zd2,hlen]
   have hxk:=hlt.out k
   have hxs2:Hid (xs.map (·.1)++((wl (W.getD k 0)).map (fun j=>k * 64+j)++ZdG W (k+1) (31 - k))=M):=by
    have:=hxs.out
    rw [show 32 - k=(31 - k)+1 by omega,ZdG] at this
    exact this
   have hlt32H:=Zaa hlt32
   generalize W.getD k 0=x0 at *
   obtain⟨k6,hk6⟩:∃ k6:Nat,(k:Int) * 64=(k6:Int):=⟨k * 64,by omega⟩
   have hk6':k * 64=k6:=by omega
   have hk6b:k6<=2048:=by omega
   gi_wp2_with (first|((with_reducible refine ZmG 170 ?_);refine ZiM Zad rfl rfl hlt32 hwk ?_))
   clear hwk hsz
   gi_loopw [4] (fun v wr=>∃ (x:Nat) (ys:List { i:Nat // Pr i }),v=.int .u64 ((x:Nat):Int)/\x<18446744073709551616/\Hid (ys.map (·.1)++((wl x).map (fun j=>k * 64+j)++ZdG W (k+1) (31 - k))=M)/\Hid (J ys wr)/\Hid (KO B0 X V wr)) (fun v _=>(intOf v).toNat)
   case atStart=>exact⟨x0,xs,rfl,hxk,hxs2,hJr,hkr⟩
   case round =>
    obtain⟨x,ys,rfl,hxl,hys,hJy,hky⟩:=hrel
    by_cases hx0:x=0
    ·subst hx0
     have hxs3:Hid (ys.map (·.1)++ZdG W (k+1) (32 - (k+1))=M):=by
      have:=hys.out
      rw [wl_zero,List.map_nil,List.nil_append] at this
      rw [show 32 - (k+1)=31 - k by have:=hlt32H.out;omega]
      exact this
     gi_wp2
     go_roundw
     case rel=>exact⟨k+1,ys,by go_num,by have:=hlt32H.out;omega,hxs3,hJy,hky⟩
     case measure=>have:=hlt32H.out;simp [intOf];omega
    ·have hpos:0<x:=by omega
     have hx1:((x:Int) == 0)=false:=by simpa using hx0
     have hstep:=wl_step x hpos hxl
     have htz:tz x<64:=(Zgh x hpos hxl).elim fun _ h=>h.2
     have hTz:=Zaa (tz_any x wr hpos hxl (hTV.out.ko hky.out hB0 hX))
     generalize tz x=z at hstep htz hTz
     obtain⟨v,hv⟩:∃ v:Nat,(k6:Int)+(z:Int)=(v:Int):=⟨k6+z,by omega⟩
     have hv':k * 64+z=v:=by omega
     obtain⟨y,hy1⟩:∃ y:Nat,(x:Int) - 1=(y:Int):=⟨x - 1,by omega⟩
     have hy2:IntKind.u64.wrap ((x:Int) - 1)=(y:Int):=by rw [IntKind.wrap_u64];omega
     have hlow:=ZmH x hpos hxl
     have hlw:=low_lt x hpos
     rw [hy1] at hlow
     generalize (x &&& (x - 1))=x2 at hlow hlw hstep
     have hM2:Hid ((ys.map (·.1)++[v])++((wl x2).map (fun j=>k * 64+j)++ZdG W (k+1) (31 - k))=M):=by
      have:=hys.out
      rw [hstep,List.map_cons,hv'] at this
      show _=_
      rw [<- this]
      simp
     have hln:ys.length<M.length:=by
      rw [<- hM2.out];simp
     have hpv:Pr v:=hPr.out v (by rw [<- hM2.out];simp)
     have hM3:Hid ((ys++[(⟨v,hpv⟩:{ i:Nat // Pr i })]).map (·.1)++((wl x2).map (fun j=>k * 64+j)++ZdG W (k+1) (31 - k))=M):=by
      have:=hM2.out
      show _=_
      rw [List.map_append]
      exact this
     have hpre:Hid ((ys++[(⟨v,hpv⟩:{ i:Nat // Pr i })]).map (·.1) <+: M):=⟨_,hM3.out⟩
     obtain⟨fn,tmps,assign,body,hy,hR⟩:=hYY.out ys ⟨v,hpv⟩ wr hJy.out hln
     simp only [encN] at hy
     replace hstep:=Zaa hstep
     replace hlw:=Zaa hlw
     replace hx0:=Zaa hx0
     gi_wp2
     refine⟨trivial,fun h=>(by cases h),(callsIn_wide.2 hTz.out).mono ?_⟩
     rintro e w5 ⟨rfl,rfl⟩
     gi_wp2
     refine⟨fun h=>(by cases h),hR.mono ?_⟩
     clear hy hR
     rintro e W5 (⟨rfl,hJ5,hk5⟩|⟨rfl,hJx5⟩)
     ·have hk6:Hid (KO B0 X V W5):=hky.out.trans hk5
      replace hJ5:=Zaa hJ5
      clear hk5
      gi_wp2
      go_roundw
      case rel=>exact⟨x2,_,by first|rfl|go_num,by have:=hlw.out;omega,hM3,hJ5,hk6⟩
      case measure=>have:=hlw.out;simp [intOf];omega
     ·replace hJx5:=Zaa hJx5
      gi_wp2
      refine bodyPost_ret (results_none rfl _ _ _) rfl ?_
      exact⟨⟨_,rfl⟩,.inr ⟨_,hpre.out,hJx5.out⟩⟩
  ·obtain rfl:k=32:=by omega
   have hx2:xs.map (·.1)=M:=by have:=hxs.out;simpa [ZdG] using this
   replace hx2:=Zaa hx2
   have i1:¬ (((32:Nat):Int)<32):=by omega
   gi_wp2
   go_end0
   exact⟨⟨_,rfl⟩,.inl ⟨xs,hx2.out,hJr.out⟩⟩
end
section
open Go.RowKit
def SeqO {α:Type}(F:Fence)(n:Nat)(P:Program)(g:Nat)(lb:Array Value)(encs:α->Array Value)(Kp:World->World->Prop)(S Sp:List α->Prop)(N:Nat)(w:World):Prop :=
 ∀ (l:Nat) (J Jx:List α->World->Prop) (W:World),Below w.heap.size w W->OwnFrom W.heap.size J->OwnFrom W.heap.size Jx ->
  (∀ pre x W1,J pre W1->pre.length<N->YieldAt F (n - 1) P l (encs x) W1 fun e W' =>
   KeepsFrom W.heap.size W1 W'/\((e=.returned (.bool true)/\J (pre++[x]) W'/\Kp W1 W')\/(e=.returned (.bool false)/\Jx (pre++[x]) W'))) ->
  J [] W ->
  CallsIn F n P g (#[.func (.yield l) #[] #[]]++lb) W fun e W'=>(∃ v,e=.returned v)/\((∃ xs,S xs/\J xs W')\/(∃ pre,Sp pre/\Jx pre W'))
section
variable {F:Fence}{n:Nat}{P:Program}{w:World}
theorem Zc8 {α:Type}{B l D:Nat}{I:List α->World->Prop}{o1 o2:Obj}(hI:OwnFrom B I)(hl:l<B)(hD:D<B):OwnFrom B (fun pre W=>I pre W/\W.heap[l]?=some o1/\W.heap[D]?=some o2):=fun s A A' row hs hg hr=>by
 have ne:∀ k,k<B->some k≠row:=fun k hk e=>by have:=(hr k e.symm).1;omega
 exact⟨hI s A A' row hs.1 hg hr,(hg.block l (Array.getElem?_eq_some_iff.1 hs.2.1).1 (ne l hl)).trans hs.2.1,(hg.block D (Array.getElem?_eq_some_iff.1 hs.2.2).1 (ne D hD)).trans hs.2.2⟩
theorem ZdH {B:Nat}{W:World}{l:Nat}{o:Obj}(hl:l<B):KeepsFrom B W (W.putObj l o):=⟨by simp [World.putObj],fun k o' hk h _=>(World.putObj_heap_other (by omega)).trans h⟩
theorem ZiN {α:Type}{g:Operand}{ps:Array Tmp}{assign body:Code}{Q:Exit->Act->World->Prop}{a:Act}
  (hro:F.round=none) (h1:1<=n) {gf:Nat} {lb:Array Value} (hg:a.eval g=.func (.func gf) #[] lb) (hFg:F.fn gf) (eg:∀ args w,(callFunc gf args).run P w=.ok (.enter gf args) w)
  {encs:α->Array Value} {Kp:World->World->Prop} {S Sp:List α->Prop} {N:Nat} {w0:World} (hseq:SeqO F (n - 1) P gf lb encs Kp S Sp N w0)
  (hKt:∀ {A B C:World},Kp A B->Kp B C->Kp A C) (hKb:∀ (W:World) (l:Nat) (o o':Obj),w.heap.size<=l->W.heap[l]?=some o->o.isCells=false->o.isWalk=false->Kp W (W.putObj l o')) (hb0:Below w0.heap.size w0 w) (hps:∀ x,(encs x).size=ps.size)
  (I:List α->World->Prop) (Ix:Code->List α->World->Prop) (hI:OwnFrom w.heap.size I) (hIx:∀ c,OwnFrom w.heap.size (Ix c)) (h0:I [] w) (Ax:α->Act->World->Prop) (hAx:∀ x a',OwnFrom w.heap.size (fun (_:Unit) W=>Ax x a' W))
  (hassign:∀ (l:Nat) (pre:List α) (x:α) (W:World) (K:Act->World->Prop),I pre W->(∀ a' W',KeepsFrom w.heap.size W W'->Kp W W'->I pre W'->Ax x a' W'->K a' W') ->
   assign.wpIn (F.inRound l) (n - 1 - 1) P (Exit.then K (fun _ _ _=>False)) { tmps:=(ps.zip (encs x)).foldl (fun t (p,v)=>t.setIfInBounds p v) a.tmps,defers:=[] } W)
  (hbody:∀ (l:Nat) (pre:List α) (x:α) (a':Act) (W:World),w.heap.size<=l->(∃ r,W.heap[l]?=some (.loop r))->I pre W->Ax x a' W->pre.length<N->body.wpIn (F.inRound l) (n - 1 - 1) P (ownPostG w.heap.size Kp I Ix (pre++[x]) W) a' W)
  (hdone:∀ (D:Nat) (xs:List α) (W:World),w.heap.size<=D->S xs->I xs W->W.heap[D]?=some (.deferred (some []))->Q .normal { a with defers:={ target:=.collected D,args:=#[] }::a.defers } W)
  (hstop:∀ (D:Nat) (c:Code) (pre:List α) (W:World),w.heap.size<=D->Sp pre->Ix c pre W->W.heap[D]?=some (.deferred (some []))->c.wpIn F n P Q { a with defers:={ target:=.collected D,args:=#[] }::a.defers } W) :
  (Code.rangeFunc g ps assign body).wpIn F n P Q a w:=by
 refine wpIn_rangeFunc ?_
 intro fn hfn
 rw [hro]
 obtain⟨rec,hrec⟩:∃ rec:LoopState->Option Code->Loop,rec=fun st pe=>{ state:=st,pending:=pe,fn,tmps:=a.tmps,params:=ps,assign,body,defers:=w.heap.size }:=⟨_,rfl⟩
 obtain⟨W1,hW1⟩:∃ W1,(w.alloc (.deferred (some []))).alloc (.loop (rec .ready none))=W1:=⟨_,rfl⟩
 have hs1:W1.heap.size=w.heap.size+2:=by rw [<- hW1];simp
 have hL1:W1.heap[w.heap.size+1]?=some (.loop (rec .ready none)):=by
  rw [<- hW1];have:=World.alloc_heap_new (w.alloc (.deferred (some []))) (.loop (rec .ready none));rwa [World.size_alloc] at this
 have hK1:W1.heap[w.heap.size]?=some (.deferred (some [])):=by
  rw [<- hW1];exact (Below.heap_alloc _ _ _ (by simp)).trans (World.alloc_heap_new w _)
 have hI1:I [] W1:=by rw [<- hW1];exact hI.alloc _ (hI.alloc _ h0)
 have hb1:Below w0.heap.size w0 W1:=by
  rw [<- hW1];exact hb0.trans ((((Below.refl _ w).alloc (Nat.le_refl _) _).alloc (by simp) _).mono hb0.size)
 have up:∀ {J:List α->World->Prop},OwnFrom w.heap.size J->OwnFrom W1.heap.size J:=fun h s A A' row hs hg hr=>h s A A' row hs hg (fun r e=>⟨by have:=(hr r e).1;omega,(hr r e).2⟩)
 refine⟨w.heap.size+1,[{ target:=.collected w.heap.size,args:=#[] }],W1,{ target:=.fn (.func gf) lb,args:=#[.func (.yield (w.heap.size+1)) #[] #[]] },W1,gf,
  #[.func (.yield (w.heap.size+1)) #[] #[]]++lb,W1,?_,?_,?_,?_,fun _=>h1,?_⟩
 ·rw [<- hW1,hrec];exact run_enterLoop_outer _ _ _ _ _
 ·simp only [resolve,hg]
  simp [go_sem]
 ·intro f' hf';simp [Target.leads] at hf';subst hf';exact hFg
 ·simp [invoke,go_sem,eg]
 ·refine (hseq (w.heap.size+1)
   (fun pre W=>I pre W/\W.heap[w.heap.size+1]?=some (.loop (rec .ready none))/\W.heap[w.heap.size]?=some (.deferred (some [])))
   (fun pre W=>∃ c,Ix c pre W/\W.heap[w.heap.size+1]?=some (.loop (rec .done (some c)))/\W.heap[w.heap.size]?=some (.deferred (some [])))
   W1 hb1 (Zc8 (up hI) (by omega) (by omega))
   (fun s A A' row hs hg' hr=>by
    obtain⟨c,hc⟩:=hs
    exact⟨c,Zc8 (up (hIx c)) (by omega) (by omega) s A A' row hc hg' hr⟩)
   ?_ ⟨hI1,hL1,hK1⟩).mono ?_
  ·rintro pre x W ⟨hi,hl,hk⟩ hlen
   have hy:=run_yield (P:=P) (args:=encs x) hl (by rw [hrec];exact hps x)
   rw [hrec] at hy
   refine⟨fn,_,assign,body,hy,roundIn_of_wpIn hfn (hassign _ pre x W _ hi ?_)⟩
   clear hy
   intro a' Wa hkfa hkpa hia hax
   have hla:=hkfa.same _ _ (by omega) hl rfl
   have hka:=hkfa.same _ _ (Nat.le_refl _) hk rfl
   have hlt:w.heap.size+1<Wa.heap.size:=(Array.getElem?_eq_some_iff.1 hla).1
   refine⟨_,run_beginRound hla (by rw [hrec]),?_⟩
   obtain⟨Wb,hWb⟩:∃ Wb,Wb=Wa.putObj (w.heap.size+1) (.loop { rec .ready none with state:=.busy }):=⟨_,rfl⟩
   have hl2:Wb.heap[w.heap.size+1]?=some (.loop { rec .ready none with state:=.busy }):=by rw [hWb];exact World.putObj_heap_same hlt
   have hk2:Wb.heap[w.heap.size]?=some (.deferred (some [])):=by rw [hWb];exact (World.putObj_heap_other (by omega)).trans hka
   have hw2:Kp Wa Wb:=by rw [hWb];exact hKb _ _ _ _ (by omega) hla rfl rfl
   have hib:I pre Wb:=by rw [hWb];exact hI.putObj _ hia (by omega) hla rfl
   have hab:Ax x a' Wb:=by rw [hWb];exact (hAx x a').putObj (s:=()) _ hax (by omega) hla rfl
   have hkf2:KeepsFrom W1.heap.size W Wb:=(KeepsFrom.trans ⟨hkfa.size,fun k o hk=>hkfa.same k o (by omega)⟩ (by rw [hWb];exact ZdH (by omega)))
   rw [<- hWb]
   refine wpIn_mono (hbody _ pre x a' _ (by omega) ⟨_,hl2⟩ hib hab hlen) ?_
   have fin:∀ (jump:Option Code) (W3:World),KeepsFrom w.heap.size Wb W3 ->
     (Instr.endRound (w.heap.size+1) jump).run P W3=.ok (.bool jump.isNone) (W3.putObj (w.heap.size+1) (.loop (rec (if jump.isNone then .ready else .done) jump))) /\
     W3.heap[w.heap.size+1]?=some (.loop { rec .ready none with state:=.busy }) /\
     (W3.putObj (w.heap.size+1) (.loop (rec (if jump.isNone then .ready else .done) jump))).heap[w.heap.size+1]?=some (.loop (rec (if jump.isNone then .ready else .done) jump)) /\
     (W3.putObj (w.heap.size+1) (.loop (rec (if jump.isNone then .ready else .done) jump))).heap[w.heap.size]?=some (.deferred (some [])) /\
     KeepsFrom W1.heap.size W (W3.putObj (w.heap.size+1) (.loop (rec (if jump.isNone then .ready else .done) jump))):=fun jump W3 hk3=>by
    have hl3:=hk3.same _ _ (by omega) hl2 rfl
    have:=run_endRound (P:=P) jump hl3
    rw [hrec] at this ⊢
    refine⟨this,by rw [hrec] at hl3;exact hl3,World.putObj_heap_same (Array.getElem?_eq_some_iff.1 hl3).1,(World.putObj_heap_other (by omega)).trans (hk3.same _ _ (Nat.le_refl _) hk2 rfl),?_⟩
    exact hkf2.trans (KeepsFrom.trans ⟨hk3.size,fun k o hk=>hk3.same k o (by omega)⟩ (ZdH (by omega)))
   rintro e a3 W3 hp
   cases e with
   | normal =>
    obtain⟨hk3,hkp3,hi3⟩:=hp
    obtain⟨hr,hl3,hl4,hk4,hkf⟩:=fin none W3 hk3
    exact⟨_,_,hr,hkf,.inl ⟨rfl,⟨hI.putObj _ hi3 (by omega) hl3 rfl,hl4,hk4⟩,hKt hkpa (hKt (hKt hw2 hkp3) (hKb _ _ _ _ (by omega) hl3 rfl rfl))⟩⟩
   | ret =>
    obtain⟨hk3,hi3⟩:=hp
    obtain⟨hr,hl3,hl4,hk4,hkf⟩:=fin (some .ret) W3 hk3
    exact⟨_,_,hr,hkf,.inr ⟨rfl,.ret,(hIx _).putObj _ hi3 (by omega) hl3 rfl,hl4,hk4⟩⟩
   | exit id =>
    obtain⟨hk3,hi3⟩:=hp
    obtain⟨hr,hl3,hl4,hk4,hkf⟩:=fin (some (.exit id)) W3 hk3
    exact⟨_,_,hr,hkf,.inr ⟨rfl,.exit id,(hIx _).putObj _ hi3 (by omega) hl3 rfl,hl4,hk4⟩⟩
   | goto t =>
    obtain⟨hk3,hi3⟩:=hp
    obtain⟨hr,hl3,hl4,hk4,hkf⟩:=fin (some (.goto t)) W3 hk3
    exact⟨_,_,hr,hkf,.inr ⟨rfl,.goto t,(hIx _).putObj _ hi3 (by omega) hl3 rfl,hl4,hk4⟩⟩
   | panic ch=>exact hp.elim
   | outgrown=>exact hp.elim
  ·rintro e W2 ⟨⟨v,rfl⟩,(⟨xs,hS,hi,hl,hk⟩|⟨pre,hSp,c,hi,hl,hk⟩)⟩
   ·exact⟨none,_,by have:=run_endLoop (P:=P) hl (by rw [hrec];simp);rw [hrec] at this;exact this,hdone _ xs _ (Nat.le_refl _) hS (hI.putObj _ hi (by omega) hl rfl) ((World.putObj_heap_other (by omega)).trans hk)⟩
   ·exact⟨some c,_,by have:=run_endLoop (P:=P) hl (by rw [hrec];simp);rw [hrec] at this;exact this,hstop _ c pre _ (Nat.le_refl _) hSp ((hIx c).putObj _ hi (by omega) hl rfl) ((World.putObj_heap_other (by omega)).trans hk)⟩
end
end
section
open Go.RowKit Go.Shelf
attribute [local go_sem] Oper.semAt_some
def ldx (L:List Ins)(b:Nat)(i:Nat):Option Nat:=match L[i]? with
 | some q=>if q.op=1/\inS q.s b=true then some q.x.toNat else none
 | none=>none
def ldl (L:List Ins)(b:Nat)(M:List Nat):List Nat:=M.filterMap (ldx L b)
theorem Zgo (L:List Ins)(b:Nat)(M:List Nat)(i:Nat):ldl L b (M++[i])=ldl L b M++(match ldx L b i with|some z=>[z]|none=>[]):=by
 simp only [ldl,List.filterMap_append,List.filterMap_cons,List.filterMap_nil]
 cases ldx L b i <;> rfl
theorem ldl_le (L:List Ins)(b:Nat)(M:List Nat):(ldl L b M).length<=M.length:=List.length_filterMap_le _ _
theorem ldx_no {L:List Ins}{b i:Nat}{q:Ins}(h:L[i]?=some q)(hn:¬ (q.op=1/\inS q.s b=true)):ldx L b i=none:=by unfold ldx;rw [h];exact if_neg hn
theorem ZmI {L:List Ins}{b i:Nat}{q:Ins}(h:L[i]?=some q)(hn:q.op=1/\inS q.s b=true):ldx L b i=some q.x.toNat:=by unfold ldx;rw [h];exact if_pos hn
theorem ZmJ (n:Nat)(al:Option Addr)(m c:Nat)(ad:Addr)(b:Nat)(w:World):CallsIn Fence.wide n Tryz.prog 112 #[.slice al m c,.pointer (some ad),.int .u8 (b:Int)] w fun e w'=>∃ gA gL gb,e=.returned (.func (.func 167) #[] #[.pointer (some ⟨gA,0,none⟩),.pointer (some ⟨gL,0,none⟩),.pointer (some ⟨gb,0,none⟩)])/\w'.heap[gA]?=some (.cells #[.pointer (some ad)] 176 (0,0))/\w'.heap[gL]?=some (.cells #[.slice al m c] 72 (0,0))/\w'.heap[gb]?=some (.cells #[.int .u8 (b:Int)] 5 (0,0))/\Below w.heap.size w w'/\w.heap.size<=gA/\w.heap.size<=gL/\w.heap.size<=gb:=by
 have hmf:∀ (fn:Fn) (first cap:Array Value) (w:World),(Instr.makeFunc fn first cap).run Tryz.prog w=.ok (.func fn first cap) w:=fun _ _ _ _=>rfl
 have H:=(((St.start Nope w).alloc 72 #[.slice al m c]).alloc 176 #[.pointer (some ad)]).alloc 5 #[.int .u8 (b:Int)]
 have g0:=H.get 0 rfl
 have g1:=H.get 1 rfl
 have g2:=H.get 2 rfl
 replace g0:=Zaa g0
 replace g1:=Zaa g1
 replace g2:=Zaa g2
 refine callsIn_of_wp Tryz.func112 rfl trivial ?_ rfl
 simp only [Tryz.ntmps112,List.size_toArray,List.length_cons,List.length_nil,Nat.reduceAdd,Nat.reduceSub,Array.replicate_succ,Array.replicate_zero,List.push_toArray,List.append_toArray,List.nil_append,List.cons_append]
 gi_wp2
 go_ret
 exact⟨_,_,_,rfl,by simpa using g1.out,by simpa using g2.out,by simpa using g0.out,H.below,by omega,by omega,by omega⟩
theorem ZfA {β:Type}{B B':Nat}{J:β->World->Prop}(h:OwnFrom B J)(hB:B<=B'):OwnFrom B' J:=fun s A A' row hs hg hr=>h s A A' row hs hg (fun r e=>⟨by have:=(hr r e).1;omega,(hr r e).2⟩)
theorem ZaW {β:Type}{B:Nat}{J:β->World->Prop}(h:OwnFrom B J){s:β}{W W':World}(hs:J s W)(hb:Below W.heap.size W W'):J s W':=h s W W' none hs (ZbV hb) (fun r e=>by cases e)
theorem Za2 {B:Nat}{W W':World}(hb:Below W.heap.size W W'):KeepsFrom B W W':=⟨hb.size,fun k o _ h _=>(hb.block k (Array.getElem?_eq_some_iff.1 h).1).trans h⟩
theorem Zhy {w:World}{b o:Nat}{u:Value}(h:w.cell? ⟨b,o,none⟩=some u):∃ cur t fr,w.heap[b]?=some (.cells cur t fr)/\cur[o]?=some u:=by
 unfold World.cell? at h
 simp only at h
 split at h
 ·rename_i cs t fr hb
  exact⟨cs,t,fr,hb,by simpa using h⟩
 ·simp at h
theorem ZkE {q:Ins}{j:Nat}{u:Value}(h:(Zce q.s)[j]?=some u):(Zcf q)[1+j]?=some u:=by
 have hj:j<4:=by have:=(Array.getElem?_eq_some_iff.1 h).1;simpa [Zce] using this
 rcases (show j=0\/j=1\/j=2\/j=3 by omega) with rfl|rfl|rfl|rfl <;> exact h
theorem load24m {w:World}{b o:Nat}{s:S4}(h:∀ j u,(Zce s)[j]?=some u->w.cell? ⟨b,o+j,none⟩=some u):(loadVar 24 ⟨b,o,none⟩).run Tryz.prog w=.ok (Zbf s) w:=by
 have:=run_loadVar_mid (P:=Tryz.prog) w b o 24 (Zce s).toList _ (fun j v hv=>h j v (by simpa using hv)) Tryz.underlying24 rfl (by rw [size25];rfl)
 simpa [Zbf] using this
theorem HsI.kc {X Y:Nat->Prop}{w w':World}{ad:Option Addr}{L:List Ins}(h:HsI w Y ad L)(hk:Kc X w w')(hY:∀ k,Y k->¬ X k):HsI w' Y ad L:=by
 rcases h with rfl|⟨b,off,cur,t,fr,rfl,hy,hb,hc⟩
 ·exact .inl rfl
 ·exact .inr ⟨b,off,cur,t,fr,rfl,hy,hk.2 b _ _ _ (hY b hy) hb,hc⟩
theorem Tab.kc {X:Nat->Prop}{w w':World}(h:Tab w)(hk:Kc X w w')(h0:¬ X 0):Tab w':=fun i hi=>by
 have h1:=h i hi
 obtain⟨cur,t,fr,hb,hc⟩:=Zhy h1
 rw [cell_of_row w' 0 i cur t fr (hk.2 0 _ _ _ h0 hb)]
 exact hc
theorem Tab.blk {w:World}(h:Tab w):∃ cur t fr,w.heap[0]?=some (.cells cur t fr):=by
 obtain⟨cur,t,fr,hb,hc⟩:=Zhy (h 0 (by decide))
 exact⟨cur,t,fr,hb⟩
theorem ko_kc {X:Nat->Prop}{w w':World}(h:Tab w)(hk:Kc X w w')(h0:¬ X 0):KO 1 (fun _=>False) w w':=⟨hk.1,fun k hk1 _ _=>by
 obtain rfl:k=0:=by omega
 obtain⟨cur,t,fr,hb⟩:=h.blk
 rw [hb]
 exact hk.2 0 _ _ _ h0 hb⟩
structure LdI (X:Nat->Prop) (V:World) (gy l:Nat) (W:World):Prop where
 kc:Kc X V W
 y:W.heap[gy]?=some (.cells #[.func (.yield l) #[] #[]] 231 (0,0))
theorem Zgp {X:Nat->Prop}{B:Nat}{W W':World}{row:Option Nat}(hg:W.grownBy W' row)(hr:∀ r,row=some r->B<=r/\∃ o:Obj,W.heap[r]?=some o/\o.isCells=false):Kc X W W':=⟨hg.size,fun k cs t fr _ e=>(hg.block k (Array.getElem?_eq_some_iff.1 e).1 (fun e2=>by
 obtain⟨_,o,ho,hc⟩:=hr k e2.symm
 rw [e] at ho
 cases ho
 cases hc)).trans e⟩
theorem LdI.kc2 {X:Nat->Prop}{V:World}{gy l:Nat}{W W':World}(h:LdI X V gy l W)(hk:Kc X W W')(hy:¬ X gy):LdI X V gy l W':=⟨h.kc.trans hk,hk.2 gy _ _ _ hy h.y⟩
section
variable {F:Fence}{n:Nat}{w w':World}{ops:Array Oper}{rest:List Oper}{a:Act}{Q:Exit->Act->World->Prop}{dst:Option Nat}{x y:Operand}{ty:TypeId}{pos:String}{after:Array Edge}
theorem ZkF (hF:∀ f,F.fn f){f:Fn}{xs ys:Array Value}(hx:a.eval x=.func f xs ys)(h:∀ g w',w'.heap[g]?=some (.cells #[.func f xs ys] 231 (0,0))->Below w.heap.size w w'->w.heap.size<=g->wpListIn F n Tryz.prog ops Q rest (a.put dst (.pointer (some ⟨g,0,none⟩))) w'):wpListIn F n Tryz.prog ops Q (⟨dst,.box 231 x,ty,pos,after,none⟩::rest) a w:=by
 have e:(execOp a.eval ⟨dst,.box 231 x,ty,pos,after,none⟩).run Tryz.prog w=.ok (.value (.pointer (some ⟨w.heap.size,0,none⟩))) (w.alloc (.cells #[.func f xs ys] 231)):=by
  unfold execOp
  simp only [hx]
  kernel_rfl
 exact ZaF hF (fun c=>nofun) e (h _ _ (heap_alloc_new w _) ((Below.refl _ w).alloc (Nat.le_refl _) _) (Nat.le_refl _))
end
set_option maxRecDepth 100000 in
theorem ZmK {Pr:Nat->Prop}(X:Nat->Prop)(n:Nat)(h3:3<=n)(gA gL gb g:Nat)(pre:Array Value)(t:TypeId)(W:List Nat)(hW:OkW W)(ad:Option Addr)(c:Nat)(L:List Ins)(b:Nat)(hb:b<256)(w:World)
  (hA:w.heap[gA]?=some (.cells #[.pointer (some ⟨g,pre.size,none⟩)] 176 (0,0))) (hLb:w.heap[gL]?=some (.cells #[.slice ad L.length c] 72 (0,0))) (hbb:w.heap[gb]?=some (.cells #[.int .u8 (b:Int)] 5 (0,0))) (hg:w.heap[g]?=some (.cells (pA pre W) t (0,0))) (hT:Tab w)
  (hI:HsI w (fun k=>¬ X k) ad L) (hok:∀ q ∈ L,OkS q.s) (hG:GoL L) (hin:∀ i,inW W i=true->i<L.length)
  (h0:¬ X 0) (kL:¬ X gL) (kb:¬ X gb) (hX:∀ k,w.heap.size<=k->¬ X k) (hPr:∀ z ∈ ldl L b (ZiG W),Pr z) :
  SeqO Fence.wide n Tryz.prog 167 #[.pointer (some ⟨gA,0,none⟩),.pointer (some ⟨gL,0,none⟩),.pointer (some ⟨gb,0,none⟩)] (encN (Pr:=Pr)) (Kc X) (fun xs=>xs.map (·.1)=ldl L b (ZiG W)) (fun _=>True) ((ZiG W).length+1) w:=fun l J Jx V hV hJ hJx hYY hJ0=>by
 have hs0:=hV.size
 have lA:=(Array.getElem?_eq_some_iff.1 hA).1
 have lL:=(Array.getElem?_eq_some_iff.1 hLb).1
 have lb:=(Array.getElem?_eq_some_iff.1 hbb).1
 have cA:=Zal ((hV.block gA lA).trans hA) 0 (v:=.pointer (some ⟨g,pre.size,none⟩)) rfl
 have hLV:Hid (V.heap[gL]?=some (.cells #[.slice ad L.length c] 72 (0,0))):=(hV.block gL lL).trans hLb
 have hbV:Hid (V.heap[gb]?=some (.cells #[.int .u8 (b:Int)] 5 (0,0))):=(hV.block gb lb).trans hbb
 have hgV:Hid (V.heap[g]?=some (.cells (pA pre W) t (0,0))):=(hV.block g (Array.getElem?_eq_some_iff.1 hg).1).trans hg
 have hTV:Hid (Tab V):=hT.below hV
 have hIV:Hid (HsI V (fun k=>¬ X k) ad L):=hI.kept (fun k _ hk=>hV.block k hk) (fun k _ h=>h)
 replace hYY:=Zaa hYY
 replace hJ:=Zaa hJ
 replace hJx:=Zaa hJx
 replace hJ0:=Zaa hJ0
 replace hok:=Zaa hok
 replace hG:=Zaa hG
 replace hin:=Zaa hin
 replace hW:=Zaa hW
 replace hX:=Zaa hX
 replace hPr:=Zaa hPr
 clear hA hLb hbb hg hT hI hV
 show CallsIn Fence.wide n Tryz.prog 167 #[.func (.yield l) #[] #[],.pointer (some ⟨gA,0,none⟩),.pointer (some ⟨gL,0,none⟩),.pointer (some ⟨gb,0,none⟩)] V _
 refine callsIn_of_wp_marks Tryz.func167 rfl trivial ?_ rfl
 simp only [Tryz.ntmps167,List.size_toArray,List.length_cons,List.length_nil,Nat.reduceAdd,Nat.reduceSub,Array.replicate_succ,Array.replicate_zero,List.push_toArray,List.append_toArray,List.nil_append,List.cons_append]
 gi_wp2_with (first|((with_reducible refine Zbh 231 ?_);refine ZkF Zad rfl ?_;intro gy w1 hy1 B1 n1;have cA1:=(B1.cell (p:=⟨gA,0,none⟩) (by show gA<V.heap.size;omega)).trans cA;clear cA;replace hy1:=Zaa hy1;replace B1:=Zaa B1)|((with_reducible refine Zah 176 ?_);refine Zai 176 Zad rfl (ld105 cA1) ?_))
 refine⟨trivial,fun h=>(by cases h),(all_in _ _ _).mono ?_⟩
 rintro e w2 ⟨gB,rfl,hbB,B2,hgB⟩
 have hs1:=B1.out.size
 have hs2:=B2.size
 have BV:Below V.heap.size V w2:=B1.out.trans (B2.mono hs1)
 have ly:=(Array.getElem?_eq_some_iff.1 hy1.out).1
 have hyX:Hid (¬ X gy):=hX.out gy (by omega)
 have I0:LdI X V gy l w2:=⟨Kc.below BV (Nat.le_refl _),(B2.block gy ly).trans hy1.out⟩
 have hst:=Zhx (Pr:=fun i=>i<L.length/\i ∈ ZiG W) 1 (fun _=>False) (n - 1) gB g pre t W hW.out w2 hbB ((BV.block g (Array.getElem?_eq_some_iff.1 hgV.out).1).trans hgV.out) (hTV.out.below BV) (by decide) (fun h=>h) (fun i hi=>⟨hin.out i ((Zc6 hW.out i).1 hi),hi⟩)
 have J0:J [] w2:=ZaW hJ.out hJ0.out BV
 clear cA1
 replace B2:=Zaa B2
 replace hbB:=Zaa hbB
 replace BV:=Zaa BV
 gi_wp2
 refine wpIn_rangeFunc_ownH rfl (by omega) (gf:=169) (lb:=#[.pointer (some ⟨gB,0,none⟩)]) rfl (Zad 169) (enters_of Tryz.func169 (by kernel_rfl) rfl)
  hst (fun h k=>h.trans k) (fun Wd l o o' hl ho hc _=>⟨by simp [World.putObj],fun k hk hlt hX=>(grownBy_putObj' Wd l o').block k hlt (fun h=>by cases h;omega)⟩) (Below.refl _ w2) (fun _=>rfl)
  (fun pr Wd=>∃ xs:List { z:Nat // Pr z },xs.map (·.1)=ldl L b (pr.map (·.1))/\J xs Wd/\LdI X V gy l Wd)
  (fun cc pr Wd=>cc=.ret/\∃ p,Jx p Wd)
  (fun pr Wd Wd' row hs hg' hr=>by
   obtain⟨xs,e1,e2,e3⟩:=hs
   exact⟨xs,e1,ZfA hJ.out (by omega) _ _ _ _ e2 hg' hr,e3.kc2 (Zgp hg' hr) hyX.out⟩)
  (fun cc pr Wd Wd' row hs hg' hr=>⟨hs.1,hs.2.elim fun p hp=>⟨p,ZfA hJx.out (by omega) _ _ _ _ hp hg' hr⟩⟩) ⟨[],rfl,J0,I0⟩
  (fun i a' Wd=>∃ (u6 u7 u8 u9 u10 u11 u12 u13 u14 u15 u16 u17 u18 u19 u20 u21 u22 u23 u24 u25 u26 u27 u28 u29 u30 u31 u32 u33 u34:Value),a'={ tmps:=#[.func (.yield l) #[] #[],.pointer (some ⟨gA,0,none⟩),.pointer (some ⟨gL,0,none⟩),.pointer (some ⟨gb,0,none⟩),.pointer (some ⟨gy,0,none⟩),.int .i64 (i.1:Int),u6,u7,u8,u9,u10,u11,u12,u13,u14,u15,u16,u17,u18,u19,u20,u21,u22,u23,u24,u25,u26,u27,u28,u29,u30,u31,u32,u33,u34],defers:=[] })
  (fun x a' _ Wd Wd' row hs hg' hr=>hs) ?assign ?body ?done ?stop
 case assign =>
  intro l2 pr x Wd K hi hK
  simp only [encN,List.zip_toArray,List.zip_cons_cons,List.zip_nil_left,List.zip_nil_right,List.foldl_toArray,List.foldl_cons,List.foldl_nil,List.setIfInBounds_toArray,List.set_cons_zero,List.set_cons_succ]
  replace hK:=Zaa hK
  replace hi:=Zaa hi
  gi_wp2
  exact hK.out _ Wd ⟨Nat.le_refl _,fun _ _ _ h _=>h⟩ (KO.refl _ _ _) hi.out ⟨_,_,_,_,_,_,_,_,_,_,_,_,_,_,_,_,_,_,_,_,_,_,_,_,_,_,_,_,_,rfl⟩
 case body =>
  rintro l2 pr ⟨i,hil,him⟩ a' Wd hl ⟨r,hr⟩ ⟨xs,hxs,hj,hd⟩ ⟨u6,u7,u8,u9,u10,u11,u12,u13,u14,u15,u16,u17,u18,u19,u20,u21,u22,u23,u24,u25,u26,u27,u28,u29,u30,u31,u32,u33,u34,rfl⟩ hlt
  obtain⟨q,hq⟩:∃ q,L[i]?=some q:=⟨_,List.getElem?_eq_getElem hil⟩
  have hqm:=List.mem_of_getElem? hq
  have hId:=hIV.out.kc hd.kc (fun k h=>h)
  obtain⟨bb,off,cur,tt,fr,rfl,hbX,hcb,hcc⟩:∃ b off cur t fr,ad=some ⟨b,off,none⟩/\¬ X b/\Wd.heap[b]?=some (.cells cur t fr)/\∀ k i,L[k]?=some i->∀ j u,(Zcf i)[j]?=some u->cur[off+k * 7+j]?=some u:=by
   rcases hId with h|h
   ·rw [h] at hq;simp at hq
   ·exact h
  have hLd:=hd.kc.2 gL _ _ _ kL hLV.out
  have hbd:=hd.kc.2 gb _ _ _ kb hbV.out
  have cL:=Zal hLd 0 (v:=.slice (some ⟨bb,off,none⟩) L.length c) rfl
  have hTd:=hTV.out.kc hd.kc h0
  have hC:∀ w',Below Wd.heap.size Wd w'->w'.cell? ⟨bb,off+i * 7,none⟩=some (.int .i64 q.op)/\(loadVar 24 ⟨bb,off+i * 7+1,none⟩).run Tryz.prog w'=.ok (Zbf q.s) w'/\w'.cell? ⟨bb,off+i * 7+5,none⟩=some (.int .i64 q.x)/\w'.cell? ⟨gb,0,none⟩=some (.int .u8 (b:Int))/\w'.cell? ⟨gy,0,none⟩=some (.func (.yield l) #[] #[]):=fun w' hb'=>by
   have e1:=(hb'.block bb (Array.getElem?_eq_some_iff.1 hcb).1).trans hcb
   have e2:=(hb'.block gb (Array.getElem?_eq_some_iff.1 hbd).1).trans hbd
   have e3:=(hb'.block gy (Array.getElem?_eq_some_iff.1 hd.y).1).trans hd.y
   have ce:∀ j u,(Zcf q)[j]?=some u->w'.cell? ⟨bb,off+i * 7+j,none⟩=some u:=fun j u hj=>by
    rw [cell_of_row w' bb _ _ tt fr e1];exact hcc i q hq j u hj
   exact⟨ce 0 _ rfl,load24m (fun j u hj=>by
    have:=ce (1+j) u (by simpa [Zcf] using ZkE hj)
    rwa [<- Nat.add_assoc] at this),ce 5 _ rfl,Zal e2 0 rfl,Zal e3 0 rfl⟩
  have i1:(i:Int)<(L.length:Int):=by omega
  have hdH:=Zaa hd
  have hjH:=Zaa hj
  have hTH:=Zaa hTd
  have hsd:V.heap.size<=Wd.heap.size:=hd.kc.1
  replace hxs:=Zaa hxs
  replace hr:=Zaa hr
  replace hq:=Zaa hq
  replace hId:=Zaa hId
  replace hcb:=Zaa hcb
  replace hcc:=Zaa hcc
  replace hLd:=Zaa hLd
  replace hbd:=Zaa hbd
  have hCH:=Zaa hC
  have him:=Zaa him
  clear hd hj hTd hC
  gi_wp2_with (first|((with_reducible refine Zah 72 ?_);refine Zai 72 (Zan l2) rfl (ld29 cL) ?_))
  by_cases hop:q.op=1
  ·cases hi:inS q.s b with
   | true =>
    have hz:=ZmI hq.out ⟨hop,hi⟩
    have hzm:q.x.toNat ∈ ldl L b (ZiG W):=List.mem_filterMap.2 ⟨i,him.out,hz⟩
    have hzp:=hPr.out _ hzm
    have hx0:=(hG.out q hqm).1 (.inr (.inr hop))
    have hxe:q.x=((q.x.toNat:Nat):Int):=by omega
    refine reg85_c l2 _ Wd bb (off+i * 7) gb gy l q b hCH.out (by simp [hop]) (hok.out q hqm) hb hi (fun e W'=>(e=.returned (.bool true)/\J (xs++[⟨q.x.toNat,hzp⟩]) W'/\Kc X Wd W'/\KeepsFrom w2.heap.size Wd W')\/(e=.returned (.bool false)/\Jx (xs++[⟨q.x.toNat,hzp⟩]) W'/\KeepsFrom w2.heap.size Wd W')) (fun w' hb'=>?_) _ _ _ _ _ _ _ _ _ _ _ _ _ _ _ _ _ _ _ _ _ _ _ _ _ _ _ _ _ _ _ _ _ ?_
    ·have:=hYY.out xs ⟨q.x.toNat,hzp⟩ w' (ZaW hJ.out hjH.out hb') (by
      have e1:=congrArg List.length hxs.out
      have e2:=ldl_le L b (pr.map (·.1))
      simp at e1 e2
      omega)
     simp only [encN] at this
     rw [<- hxe] at this
     refine (ZbW this).mono ?_
     rintro e W' ⟨k1,(⟨rfl,k2,k3⟩|⟨rfl,k2⟩)⟩
     ·exact .inl ⟨rfl,k2,(Kc.below hb' (Nat.le_refl _)).trans k3,(Za2 hb').trans ⟨k1.size,fun k o hk=>k1.same k o (by omega)⟩⟩
     ·exact .inr ⟨rfl,k2,(Za2 hb').trans ⟨k1.size,fun k o hk=>k1.same k o (by omega)⟩⟩
    ·rintro e W' (⟨rfl,k2,k3,k4⟩|⟨rfl,k2,k4⟩)
     ·refine⟨true,rfl,?_⟩
      replace k2:=Zaa k2
      replace k3:=Zaa k3
      replace k4:=Zaa k4
      gi_wp2
      refine⟨k4.out,ko_kc hTH.out k3.out h0,_,?_,k2.out,hdH.out.kc2 k3.out hyX.out⟩
      have:=hxs.out
      rw [List.map_append,List.map_append,this]
      show _=ldl L b (pr.map (·.1)++[i])
      rw [Zgo,hz]
      rfl
     ·refine⟨false,rfl,?_⟩
      replace k2:=Zaa k2
      replace k4:=Zaa k4
      gi_wp2
      exact⟨k4.out,rfl,_,k2.out⟩
   | false =>
    have hz:=ldx_no hq.out (b:=b) (fun h=>by rw [hi] at h;cases h.2)
    refine reg85_b l2 _ Wd bb (off+i * 7) gb gy l q b hCH.out (by simp [hop]) (hok.out q hqm) hb hi _ _ _ _ _ _ _ _ _ _ _ _ _ _ _ _ _ _ _ _ _ _ _ _ _ _ _ _ _ _ _ _ _ (fun w' hb'=>?_)
    replace hb':=Zaa hb'
    gi_wp2
    refine⟨Za2 hb'.out,KO.below hb'.out (Nat.le_refl _),xs,?_,ZaW hJ.out hjH.out hb'.out,hdH.out.kc2 (Kc.below hb'.out (Nat.le_refl _)) hyX.out⟩
    have:=hxs.out
    rw [List.map_append,this]
    show _=ldl L b (pr.map (·.1)++[i])
    rw [Zgo,hz,List.append_nil]
  ·have hz:=ldx_no hq.out (b:=b) (fun h=>hop h.1)
   refine reg85_a l2 _ Wd bb (off+i * 7) gb gy l q b hCH.out (by simpa using hop) _ _ _ _ _ _ _ _ _ _ _ _ _ _ _ _ _ _ _ _ _ _ _ _ _ _ _ _ _ _ _ _ _ (fun w' hb'=>?_)
   replace hb':=Zaa hb'
   gi_wp2
   refine⟨Za2 hb'.out,KO.below hb'.out (Nat.le_refl _),xs,?_,ZaW hJ.out hjH.out hb'.out,hdH.out.kc2 (Kc.below hb'.out (Nat.le_refl _)) hyX.out⟩
   have:=hxs.out
   rw [List.map_append,this]
   show _=ldl L b (pr.map (·.1)++[i])
   rw [Zgo,hz,List.append_nil]
 case done =>
  rintro D xs Wd hD hS ⟨ys,hys,hj,hd⟩ hK
  rw [hS] at hys
  replace hys:=Zaa hys
  replace hj:=Zaa hj
  replace hd:=Zaa hd
  replace hK:=Zaa hK
  gi_wp2
  refine⟨by simp,.inl ⟨_,_,rfl,run_takeDeferred hK.out,?_⟩⟩
  refine⟨_,results_none rfl _ _ _,⟨_,rfl⟩,.inl ⟨ys,hys.out,hJ.out.putObj _ hj.out (by omega) hK.out rfl⟩⟩
 case stop =>
  rintro D cc pr Wd hD hS ⟨rfl,p,hp⟩ hK
  replace hp:=Zaa hp
  replace hK:=Zaa hK
  gi_wp2
  refine⟨by simp,.inl ⟨_,_,rfl,run_takeDeferred hK.out,?_⟩⟩
  refine⟨_,results_none rfl _ _ _,⟨_,rfl⟩,.inr ⟨p,trivial,hJx.out.putObj _ hp.out (by omega) hK.out rfl⟩⟩
end
namespace G
open Go.RowKit Go.Shelf
def SeqB {α:Type}(d:Nat)(F:Fence)(n:Nat)(P:Program)(g:Nat)(lb:Array Value)(encs:α->Array Value)(Kp:Nat->World->World->Prop)(S Sp:List α->Prop)(Y:List α->α->Prop)(w:World):Prop :=
 ∀ (l:Nat) (J Jx:List α->World->Prop) (W:World),Below w.heap.size w W->OwnFrom W.heap.size J->OwnFrom W.heap.size Jx ->
  (∀ pre x W1,J pre W1->Y pre x->W.heap.size+d<=W1.heap.size->YieldAt F (n - 1) P l (encs x) W1 fun e W' =>
   KeepsFrom W.heap.size W1 W'/\((e=.returned (.bool true)/\J (pre++[x]) W'/\Kp W.heap.size W1 W')\/(e=.returned (.bool false)/\Jx (pre++[x]) W'))) ->
  J [] W ->
  CallsIn F n P g (#[.func (.yield l) #[] #[]]++lb) W fun e W'=>(∃ v,e=.returned v)/\((∃ xs,S xs/\J xs W')\/(∃ pre,Sp pre/\Jx pre W'))
section
variable {d:Nat}{F:Fence}{n:Nat}{P:Program}{w:World}
theorem ZbG {α:Type}{g:Operand}{ps:Array Tmp}{assign body:Code}{Q:Exit->Act->World->Prop}{a:Act}
  (hro:F.round=none) (h1:1<=n) {gf:Nat} {lb:Array Value} (hg:a.eval g=.func (.func gf) #[] lb) (hFg:F.fn gf) (eg:∀ args w,(callFunc gf args).run P w=.ok (.enter gf args) w)
  {encs:α->Array Value} {Kp:Nat->World->World->Prop} {S Sp:List α->Prop} {Y:List α->α->Prop} {w0:World} (hseq:SeqB d F (n - 1) P gf lb encs Kp S Sp Y w0)
  (hKt:∀ {A B C:World},Kp (w.heap.size+2) A B->Kp (w.heap.size+2) B C->Kp (w.heap.size+2) A C) (hKb:∀ (W:World) (l:Nat) (o o':Obj),w.heap.size<=l->W.heap[l]?=some o->o.isCells=false->o.isWalk=false->Kp (w.heap.size+2) W (W.putObj l o')) (hb0:Below w0.heap.size w0 w) (hps:∀ x,(encs x).size=ps.size)
  (I:List α->World->Prop) (Ix:Code->List α->World->Prop) (hI:OwnFrom w.heap.size I) (hIx:∀ c,OwnFrom w.heap.size (Ix c)) (h0:I [] w) (Ax:α->Act->World->Prop) (hAx:∀ x a',OwnFrom w.heap.size (fun (_:Unit) W=>Ax x a' W))
  (hassign:∀ (l:Nat) (pre:List α) (x:α) (W:World) (K:Act->World->Prop),I pre W->(∀ a' W',KeepsFrom w.heap.size W W'->Kp (w.heap.size+2) W W'->I pre W'->Ax x a' W'->K a' W') ->
   assign.wpIn (F.inRound l) (n - 1 - 1) P (Exit.then K (fun _ _ _=>False)) { tmps:=(ps.zip (encs x)).foldl (fun t (p,v)=>t.setIfInBounds p v) a.tmps,defers:=[] } W)
  (hbody:∀ (l:Nat) (pre:List α) (x:α) (a':Act) (W:World),w.heap.size<=l->(∃ r,W.heap[l]?=some (.loop r))->I pre W->Ax x a' W->Y pre x->w.heap.size+2+d<=W.heap.size->body.wpIn (F.inRound l) (n - 1 - 1) P (ownPostG w.heap.size (Kp (w.heap.size+2)) I Ix (pre++[x]) W) a' W)
  (hdone:∀ (D:Nat) (xs:List α) (W:World),w.heap.size<=D->S xs->I xs W->W.heap[D]?=some (.deferred (some []))->Q .normal { a with defers:={ target:=.collected D,args:=#[] }::a.defers } W)
  (hstop:∀ (D:Nat) (c:Code) (pre:List α) (W:World),w.heap.size<=D->Sp pre->Ix c pre W->W.heap[D]?=some (.deferred (some []))->c.wpIn F n P Q { a with defers:={ target:=.collected D,args:=#[] }::a.defers } W) :
  (Code.rangeFunc g ps assign body).wpIn F n P Q a w:=by
 refine wpIn_rangeFunc ?_
 intro fn hfn
 rw [hro]
 obtain⟨rec,hrec⟩:∃ rec:LoopState->Option Code->Loop,rec=fun st pe=>{ state:=st,pending:=pe,fn,tmps:=a.tmps,params:=ps,assign,body,defers:=w.heap.size }:=⟨_,rfl⟩
 obtain⟨W1,hW1⟩:∃ W1,(w.alloc (.deferred (some []))).alloc (.loop (rec .ready none))=W1:=⟨_,rfl⟩
 have hs1:W1.heap.size=w.heap.size+2:=by rw [<- hW1];simp
 have hL1:W1.heap[w.heap.size+1]?=some (.loop (rec .ready none)):=by
  rw [<- hW1];have:=World.alloc_heap_new (w.alloc (.deferred (some []))) (.loop (rec .ready none));rwa [World.size_alloc] at this
 have hK1:W1.heap[w.heap.size]?=some (.deferred (some [])):=by
  rw [<- hW1];exact (Below.heap_alloc _ _ _ (by simp)).trans (World.alloc_heap_new w _)
 have hI1:I [] W1:=by rw [<- hW1];exact hI.alloc _ (hI.alloc _ h0)
 have hb1:Below w0.heap.size w0 W1:=by
  rw [<- hW1];exact hb0.trans ((((Below.refl _ w).alloc (Nat.le_refl _) _).alloc (by simp) _).mono hb0.size)
 have up:∀ {J:List α->World->Prop},OwnFrom w.heap.size J->OwnFrom W1.heap.size J:=fun h s A A' row hs hg hr=>h s A A' row hs hg (fun r e=>⟨by have:=(hr r e).1;omega,(hr r e).2⟩)
 refine⟨w.heap.size+1,[{ target:=.collected w.heap.size,args:=#[] }],W1,{ target:=.fn (.func gf) lb,args:=#[.func (.yield (w.heap.size+1)) #[] #[]] },W1,gf,
  #[.func (.yield (w.heap.size+1)) #[] #[]]++lb,W1,?_,?_,?_,?_,fun _=>h1,?_⟩
 ·rw [<- hW1,hrec];exact run_enterLoop_outer _ _ _ _ _
 ·simp only [resolve,hg]
  simp [go_sem]
 ·intro f' hf';simp [Target.leads] at hf';subst hf';exact hFg
 ·simp [invoke,go_sem,eg]
 ·refine (hseq (w.heap.size+1)
   (fun pre W=>I pre W/\W.heap[w.heap.size+1]?=some (.loop (rec .ready none))/\W.heap[w.heap.size]?=some (.deferred (some [])))
   (fun pre W=>∃ c,Ix c pre W/\W.heap[w.heap.size+1]?=some (.loop (rec .done (some c)))/\W.heap[w.heap.size]?=some (.deferred (some [])))
   W1 hb1 (Zc8 (up hI) (by omega) (by omega))
   (fun s A A' row hs hg' hr=>by
    obtain⟨c,hc⟩:=hs
    exact⟨c,Zc8 (up (hIx c)) (by omega) (by omega) s A A' row hc hg' hr⟩)
   ?_ ⟨hI1,hL1,hK1⟩).mono ?_
  ·rintro pre x W ⟨hi,hl,hk⟩ hlen hsz
   have hy:=run_yield (P:=P) (args:=encs x) hl (by rw [hrec];exact hps x)
   rw [hrec] at hy
   refine⟨fn,_,assign,body,hy,roundIn_of_wpIn hfn (hassign _ pre x W _ hi ?_)⟩
   clear hy
   intro a' Wa hkfa hkpa hia hax
   have hla:=hkfa.same _ _ (by omega) hl rfl
   have hka:=hkfa.same _ _ (Nat.le_refl _) hk rfl
   have hlt:w.heap.size+1<Wa.heap.size:=(Array.getElem?_eq_some_iff.1 hla).1
   refine⟨_,run_beginRound hla (by rw [hrec]),?_⟩
   obtain⟨Wb,hWb⟩:∃ Wb,Wb=Wa.putObj (w.heap.size+1) (.loop { rec .ready none with state:=.busy }):=⟨_,rfl⟩
   have hl2:Wb.heap[w.heap.size+1]?=some (.loop { rec .ready none with state:=.busy }):=by rw [hWb];exact World.putObj_heap_same hlt
   have hk2:Wb.heap[w.heap.size]?=some (.deferred (some [])):=by rw [hWb];exact (World.putObj_heap_other (by omega)).trans hka
   have hw2:Kp (w.heap.size+2) Wa Wb:=by rw [hWb];exact hKb _ _ _ _ (by omega) hla rfl rfl
   have hib:I pre Wb:=by rw [hWb];exact hI.putObj _ hia (by omega) hla rfl
   have hab:Ax x a' Wb:=by rw [hWb];exact (hAx x a').putObj (s:=()) _ hax (by omega) hla rfl
   have hkf2:KeepsFrom W1.heap.size W Wb:=(KeepsFrom.trans ⟨hkfa.size,fun k o hk=>hkfa.same k o (by omega)⟩ (by rw [hWb];exact ZdH (by omega)))
   rw [<- hWb]
   refine wpIn_mono (hbody _ pre x a' _ (by omega) ⟨_,hl2⟩ hib hab hlen (by rw [hWb];have:=hkfa.size;simp [World.putObj];omega)) ?_
   have fin:∀ (jump:Option Code) (W3:World),KeepsFrom w.heap.size Wb W3 ->
     (Instr.endRound (w.heap.size+1) jump).run P W3=.ok (.bool jump.isNone) (W3.putObj (w.heap.size+1) (.loop (rec (if jump.isNone then .ready else .done) jump))) /\
     W3.heap[w.heap.size+1]?=some (.loop { rec .ready none with state:=.busy }) /\
     (W3.putObj (w.heap.size+1) (.loop (rec (if jump.isNone then .ready else .done) jump))).heap[w.heap.size+1]?=some (.loop (rec (if jump.isNone then .ready else .done) jump)) /\
     (W3.putObj (w.heap.size+1) (.loop (rec (if jump.isNone then .ready else .done) jump))).heap[w.heap.size]?=some (.deferred (some [])) /\
     KeepsFrom W1.heap.size W (W3.putObj (w.heap.size+1) (.loop (rec (if jump.isNone then .ready else .done) jump))):=fun jump W3 hk3=>by
    have hl3:=hk3.same _ _ (by omega) hl2 rfl
    have:=run_endRound (P:=P) jump hl3
    rw [hrec] at this ⊢
    refine⟨this,by rw [hrec] at hl3;exact hl3,World.putObj_heap_same (Array.getElem?_eq_some_iff.1 hl3).1,(World.putObj_heap_other (by omega)).trans (hk3.same _ _ (Nat.le_refl _) hk2 rfl),?_⟩
    exact hkf2.trans (KeepsFrom.trans ⟨hk3.size,fun k o hk=>hk3.same k o (by omega)⟩ (ZdH (by omega)))
   rintro e a3 W3 hp
   cases e with
   | normal =>
    obtain⟨hk3,hkp3,hi3⟩:=hp
    obtain⟨hr,hl3,hl4,hk4,hkf⟩:=fin none W3 hk3
    exact⟨_,_,hr,hkf,.inl ⟨rfl,⟨hI.putObj _ hi3 (by omega) hl3 rfl,hl4,hk4⟩,by rw [hs1];exact hKt hkpa (hKt (hKt hw2 hkp3) (hKb _ _ _ _ (by omega) hl3 rfl rfl))⟩⟩
   | ret =>
    obtain⟨hk3,hi3⟩:=hp
    obtain⟨hr,hl3,hl4,hk4,hkf⟩:=fin (some .ret) W3 hk3
    exact⟨_,_,hr,hkf,.inr ⟨rfl,.ret,(hIx _).putObj _ hi3 (by omega) hl3 rfl,hl4,hk4⟩⟩
   | exit id =>
    obtain⟨hk3,hi3⟩:=hp
    obtain⟨hr,hl3,hl4,hk4,hkf⟩:=fin (some (.exit id)) W3 hk3
    exact⟨_,_,hr,hkf,.inr ⟨rfl,.exit id,(hIx _).putObj _ hi3 (by omega) hl3 rfl,hl4,hk4⟩⟩
   | goto t =>
    obtain⟨hk3,hi3⟩:=hp
    obtain⟨hr,hl3,hl4,hk4,hkf⟩:=fin (some (.goto t)) W3 hk3
    exact⟨_,_,hr,hkf,.inr ⟨rfl,.goto t,(hIx _).putObj _ hi3 (by omega) hl3 rfl,hl4,hk4⟩⟩
   | panic ch=>exact hp.elim
   | outgrown=>exact hp.elim
  ·rintro e W2 ⟨⟨v,rfl⟩,(⟨xs,hS,hi,hl,hk⟩|⟨pre,hSp,c,hi,hl,hk⟩)⟩
   ·exact⟨none,_,by have:=run_endLoop (P:=P) hl (by rw [hrec];simp);rw [hrec] at this;exact this,hdone _ xs _ (Nat.le_refl _) hS (hI.putObj _ hi (by omega) hl rfl) ((World.putObj_heap_other (by omega)).trans hk)⟩
   ·exact⟨some c,_,by have:=run_endLoop (P:=P) hl (by rw [hrec];simp);rw [hrec] at this;exact this,hstop _ c pre _ (Nat.le_refl _) hSp ((hIx c).putObj _ hi (by omega) hl rfl) ((World.putObj_heap_other (by omega)).trans hk)⟩
end
end G
namespace G
open Go.RowKit Go.Shelf
attribute [local go_sem] Oper.semAt_some
abbrev encT (x:Tx):Array Value:=#[encStr x]
theorem ZmL {s:Tx}{k:Nat}(h:k<(Zbq s).length):(Zbq s)[k]?=some ((s.drop k).take 3):=by
 rw [Zcb] at h
 simp [Zbq,List.getElem?_map,List.getElem?_range,h]
theorem str_cut (s:Tx)(i j:Nat):(⟨s.toArray⟩:ByteArray).extract i j=⟨((s.drop i).take (j - i)).toArray⟩:=by
 apply ByteArray.ext
 rw [ByteArray.data_extract]
 apply Array.toList_inj.1
 simp [Array.toList_extract,List.extract_eq_take_drop]
set_option maxRecDepth 100000 in
theorem ZmM (X:Nat->Prop)(n:Nat)(hn:1<=n)(l Bs:Nat)(s:Tx)(hs:s.length<=1099511627776)(hX:¬ X Bs)(J Jx:List Tx->World->Prop)
  (W:World) (hY:∀ pre x W1,J pre W1->pre++[x] <+: Zbq s->W.heap.size+0<=W1.heap.size->YieldAt Fence.wide (n - 1) Tryz.prog l (encT x) W1 fun e W' =>
   KeepsFrom W.heap.size W1 W'/\((e=.returned (.bool true)/\J (pre++[x]) W'/\Kc X W1 W')\/(e=.returned (.bool false)/\Jx (pre++[x]) W')))
  (hBs:W.heap[Bs]?=some (.cells #[encStr s] 9 (0,0))) (h0:J [] W) :
  CallsIn Fence.wide n Tryz.prog 89 #[.func (.yield l) #[] #[],.pointer (some ⟨Bs,0,none⟩)] W fun e W'=>(∃ v,e=.returned v)/\((∃ ys,ys=Zbq s/\J ys W')\/(∃ pre,pre <+: Zbq s/\Jx pre W')):=by
 obtain⟨m,hm⟩:∃ m,(Zbq s).length=m:=⟨_,rfl⟩
 have hm2:=Zcb s
 obtain⟨N,hN⟩:∃ N,s.length=N:=⟨_,rfl⟩
 rw [hN] at hs hm2
 rw [hm] at hm2
 have hsz:(⟨s.toArray⟩:ByteArray).size=N:=by simpa [ByteArray.size] using hN
 have iN:(N:Int)<=1099511627776:=by omega
 replace hm:=Zaa hm
 replace hN:=Zaa hN
 refine callsIn_of_wp Tryz.func89 rfl trivial ?_ rfl
 simp only [Tryz.ntmps89,List.size_toArray,List.length_cons,List.length_nil,Nat.reduceAdd,Nat.reduceSub,Array.replicate_succ,Array.replicate_zero,List.push_toArray,List.append_toArray,List.nil_append,List.cons_append]
 gi_wp2
 gi_loopw [3] (fun i wr=>∃ k:Nat,k<=m/\i=.int .i64 ((k+3:Nat):Int)/\J ((Zbq s).take k) wr/\Hid (wr.heap[Bs]?=some (.cells #[encStr s] 9 (0,0)))/\Hid (W.heap.size<=wr.heap.size)) (fun i _=>m+3 - (RowKit.intOf i).toNat)
 case atStart=>exact⟨0,Nat.zero_le _,rfl,by simpa using h0,hBs,Nat.le_refl _⟩
 case round =>
  obtain⟨k,hk,rfl,hJs,hb,hsw⟩:=hrel
  have c0:wr.cell? ⟨Bs,0,none⟩=some (.string ⟨s.toArray⟩):=Zal hb.out 0 rfl
  by_cases hlt:k<m
  ·obtain⟨k3,hk3⟩:∃ k3,k+3=k3:=⟨_,rfl⟩
   rw [hk3]
   have i1:(k3:Int)<=(N:Int):=by omega
   have i2:(k3:Int) - 3=(k:Int):=by omega
   have i3:(k:Int)<=(k3:Int):=by omega
   have hx:(Zbq s)[k]?=some ((s.drop k).take 3):=ZmL (by rw [hm.out];exact hlt)
   have hcut:(⟨s.toArray⟩:ByteArray).extract k k3=⟨((s.drop k).take 3).toArray⟩:=by rw [str_cut,show k3 - k=3 by omega]
   generalize (s.drop k).take 3=x at *
   have ht:Hid ((Zbq s).take k++[x]=(Zbq s).take (k+1)):=by
    show _=_
    rw [List.take_add_one,hx];rfl
   have hpre:Hid ((Zbq s).take (k+1) <+: Zbq s):=List.take_prefix _ _
   obtain⟨fn,tmps,assign,body,hy,hR⟩:=hY _ x wr hJs (by rw [ht.out];exact hpre.out) hsw.out
   rw [ht.out] at hR
   simp only [encT,encStr] at hy
   replace hx:=Zaa hx
   obtain⟨S,hS⟩:∃ S:ByteArray,⟨s.toArray⟩=S:=⟨_,rfl⟩
   rw [hS] at hcut hsz c0
   replace hS:=Zaa hS
   have i4:(k3:Int)<=(S.size:Int):=by omega
   have i5:k3<=S.size:=by omega
   have i6:k<=k3:=by omega
   clear hY hJs
   gi_wp2
   refine hR.mono ?_
   rintro e W3 ⟨_,(⟨rfl,hJ3,hk3b⟩|⟨rfl,hJx3⟩)⟩
   ·have hb3:=Zaa (hk3b.2 Bs _ _ _ hX hb.out)
    have hs3:Hid (W.heap.size<=W3.heap.size):=Nat.le_trans hsw.out hk3b.1
    clear hk3b
    gi_wp2
    go_roundw
    case rel=>exact⟨k+1,by omega,by simp;omega,hJ3,hb3,hs3⟩
    case measure=>simp [RowKit.intOf];omega
   ·gi_wp2
    refine bodyPost_ret (results_none rfl _ _ _) rfl ?_
    exact⟨⟨_,rfl⟩,.inr ⟨_,hpre.out,hJx3⟩⟩
  ·obtain rfl:k=m:=by omega
   obtain⟨k3,hk3⟩:∃ k3,k+3=k3:=⟨_,rfl⟩
   rw [hk3]
   obtain⟨S,hS⟩:∃ S:ByteArray,⟨s.toArray⟩=S:=⟨_,rfl⟩
   rw [hS] at hsz c0
   replace hS:=Zaa hS
   have i1:¬ (k3:Int)<=(S.size:Int):=by omega
   rw [List.take_of_length_le (by rw [hm.out];exact Nat.le_refl _)] at hJs
   gi_wp2
   go_end0
   exact⟨⟨_,rfl⟩,.inl hJs⟩
theorem Zeg (X:Nat->Prop)(n:Nat)(hn:1<=n)(Bs:Nat)(s:Tx)(hs:s.length<=1099511627776)(hX:¬ X Bs)(w:World)(h:w.heap[Bs]?=some (.cells #[encStr s] 9 (0,0))) :
  SeqB 0 Fence.wide n Tryz.prog 89 #[.pointer (some ⟨Bs,0,none⟩)] encT (fun _=>Kc X) (fun ys=>ys=Zbq s) (fun pre=>pre <+: Zbq s) (fun pre x=>pre++[x] <+: Zbq s) w:=fun l J Jx W hW _ _ hY h0 =>
 ZmM X n hn l Bs s hs hX J Jx W hY ((hW.block Bs (Array.getElem?_eq_some_iff.1 h).1).trans h) h0
theorem ZjN (n:Nat)(s:Tx)(w:World):CallsIn Fence.wide n Tryz.prog 40 #[encStr s] w fun e w'=>e=.returned (.func (.func 89) #[] #[.pointer (some ⟨w.heap.size,0,none⟩)])/\w'=w.alloc (.cells #[encStr s] 9):=by
 have hmf:∀ (fn:Fn) (first cap:Array Value) (w:World),(Instr.makeFunc fn first cap).run Tryz.prog w=.ok (.func fn first cap) w:=fun _ _ _ _=>rfl
 refine callsIn_of_wp Tryz.func40 rfl trivial ?_ rfl
 simp only [Tryz.ntmps40,List.size_toArray,List.length_cons,List.length_nil,Nat.reduceAdd,Nat.reduceSub,Array.replicate_succ,Array.replicate_zero,List.push_toArray,List.append_toArray,List.nil_append,List.cons_append]
 gi_wp2
 go_ret
 exact⟨rfl,rfl⟩
theorem ZmN (n:Nat)(v:Value)(w:World):CallsIn Fence.wide n Tryz.prog 41 #[v] w fun e w'=>e=.returned v/\w'=w:=by
 refine callsIn_of_wp Tryz.func41 rfl trivial ?_ rfl
 simp only [Tryz.ntmps41,List.size_toArray,List.length_cons,List.length_nil,Nat.reduceAdd,Nat.reduceSub,Array.replicate_succ,Array.replicate_zero,List.push_toArray,List.append_toArray,List.nil_append,List.cons_append]
 gi_wp2
 go_ret
 exact⟨rfl,rfl⟩
end G
namespace G
open Go.RowKit Go.Shelf Go.Maps Go.WideMaps
attribute [local go_sem] Oper.semAt_some
set_option maxRecDepth 100000 in
theorem law9:Keyed Tryz.prog 9:=string_keyed Tryz.underlying9
abbrev txkey (s:Tx):Lit:=.string s
set_option maxRecDepth 100000 in
theorem hkey9 {s:Tx}(h:s.length<=maxLen):keyOf Tryz.prog 9 (.string ⟨s.toArray⟩)=some (txkey s):=by
 have:=keyOf_string_mk Tryz.underlying9 (s:=⟨s.toArray⟩) (by simpa [ByteArray.size] using h)
 simpa using this
theorem ZeR (w:World):(zeroValue 103).run Tryz.prog w=.ok (.agg #[]) w:=by kernel_rfl
structure SetT (w:World) (b:Nat) (had:List Tx):Prop where
 map:∃ n D,n<=had.length/\w.ownsMap (H:=Unit) Tryz.prog 9 unitElem b n D/\∀ s:Tx,Maps.has D (txkey s)=decide (s ∈ had)
theorem SetT.kept {w w':World}{b:Nat}{had:List Tx}{row:Option Nat}(h:SetT w b had)(hg:w.grownBy w' row)(hr:some b≠row):SetT w' b had:=by
 obtain⟨n,D,h1,h2,h3⟩:=h.map
 exact⟨n,D,h1,h2.kept hg hr,h3⟩
theorem SetT.block {w w':World}{b:Nat}{had:List Tx}(h:SetT w b had)(hb:w'.heap[b]?=w.heap[b]?):SetT w' b had:=by
 obtain⟨n,D,h1,⟨es,clock,e1,e2,e3,e4⟩,h3⟩:=h.map
 exact⟨n,D,h1,⟨es,clock,hb.trans e1,e2,e3,e4⟩,h3⟩
theorem SetT.lt {w:World}{b:Nat}{had:List Tx}(h:SetT w b had):b<w.heap.size:=by
 obtain⟨n,D,_,h2,_⟩:=h.map
 exact h2.lt
theorem SetT.obj {w:World}{b:Nat}{had:List Tx}(h:SetT w b had):∃ o:Obj,w.heap[b]?=some o/\o.isCells=false:=by
 obtain⟨n,D,_,⟨es,clock,e1,_⟩,_⟩:=h.map
 exact⟨_,e1,rfl⟩
theorem ZeS (w:World):SetT (w.alloc (.map #[] 0)) w.heap.size []:=⟨0,.map [],Nat.le_refl _,World.ownsMap_made _ _ _ _,fun s=>rfl⟩
structure DsI (X:Nat->Prop) (V:World) (gy gt m l:Nat) (had:List Tx) (W:World):Prop where
 kc:Kc X V W
 y:W.heap[gy]?=some (.cells #[.func (.yield l) #[] #[]] 81 (0,0))
 t:W.heap[gt]?=some (.cells #[.map (some m)] 102 (0,0))
 s:SetT W m had
end G
namespace G
open Go.RowKit Go.Shelf Go.Maps Go.WideMaps
attribute [local go_sem] Oper.semAt_some
theorem dis_pre {α:Type} [DecidableEq α] (a b:List α):∀ had:List α,dis had a <+: dis had (a++b):=by
 induction a with
 | nil=>intro had;exact List.nil_prefix
 | cons x r ih =>
  intro had
  by_cases h:x ∈ had
  ·simpa [dis,h] using ih had
  ·simpa [dis,h] using ih (x::had)
theorem ZfB {α:Type} [DecidableEq α] {a L:List α}(h:a <+: L)(had:List α):dis had a <+: dis had L:=by
 obtain⟨b,rfl⟩:=h
 exact dis_pre a b had
section
variable {F:Fence}{n:Nat}{w w':World}{ops:Array Oper}{rest:List Oper}{a:Act}{Q:Exit->Act->World->Prop}{dst:Option Nat}{x y:Operand}{ty:TypeId}{pos:String}{after:Array Edge}
theorem ZmO (hF:∀ f,F.fn f){f:Fn}{xs ys:Array Value}(hx:a.eval x=.func f xs ys)(h:∀ g w',g=w.heap.size->w'.heap[g]?=some (.cells #[.func f xs ys] 81 (0,0))->Below w.heap.size w w'->w'.heap.size=w.heap.size+1->wpListIn F n Tryz.prog ops Q rest (a.put dst (.pointer (some ⟨g,0,none⟩))) w'):wpListIn F n Tryz.prog ops Q (⟨dst,.box 81 x,ty,pos,after,none⟩::rest) a w:=by
 have e:(execOp a.eval ⟨dst,.box 81 x,ty,pos,after,none⟩).run Tryz.prog w=.ok (.value (.pointer (some ⟨w.heap.size,0,none⟩))) (w.alloc (.cells #[.func f xs ys] 81)):=by
  unfold execOp
  simp only [hx]
  kernel_rfl
 exact ZaF hF (fun c=>nofun) e (h _ _ rfl (heap_alloc_new w _) ((Below.refl _ w).alloc (Nat.le_refl _) _) (by simp))
theorem ZcS (hF:∀ f,F.fn f)(h:∀ g w',g=w.heap.size->w'.heap[g]?=some (.cells #[.map none] 102 (0,0))->Below w.heap.size w w'->w'.heap.size=w.heap.size+1->wpListIn F n Tryz.prog ops Q rest (a.put dst (.pointer (some ⟨g,0,none⟩))) w'):wpListIn F n Tryz.prog ops Q (⟨dst,.alloc 102,ty,pos,after,none⟩::rest) a w:=by
 have e:(execOp a.eval ⟨dst,.alloc 102,ty,pos,after,none⟩).run Tryz.prog w=.ok (.value (.pointer (some ⟨w.heap.size,0,none⟩))) (w.alloc (.cells #[.map none] 102)):=by
  unfold execOp
  kernel_rfl
 exact ZaF hF (fun c=>nofun) e (h _ _ rfl (heap_alloc_new w _) ((Below.refl _ w).alloc (Nat.le_refl _) _) (by simp))
theorem one102:∀ w,(sizeOf 102).run Tryz.prog w=.ok 1 w:=fun w=>by kernel_rfl
theorem ZmP {g:Nat}{u:Value}{m:Nat}(h:w.heap[g]?=some (.cells #[u] 102 (0,0))):(storeVar 102 ⟨g,0,none⟩ (.map (some m))).run Tryz.prog w=.ok () (w.setCell ⟨g,0,none⟩ (.map (some m))):=by
 have hc:=Zal h 0 (v:=u) rfl
 have hf:=frozen_of_row w g 0 _ 102 h
 have e:(storeCells ⟨g,0,none⟩ [.map (some m)]).run Tryz.prog w=.ok () (w.setCell ⟨g,0,none⟩ (.map (some m))):=by simp [storeCells,go_sem,stored,hc,hf]
 have e4:(Value.map (some m)).cells=#[.map (some m)]:=rfl
 unfold storeVar
 simp only [Sem.run_bind,one102,Result.andThen_ok,e4]
 simpa using e
theorem ZeT (hF:∀ f,F.fn f){g m:Nat}{u:Value}(hg:w.heap[g]?=some (.cells #[u] 102 (0,0)))(hx:a.eval x=.pointer (some ⟨g,0,none⟩))(hy:a.eval y=.map (some m))(h:∀ w',w'.heap[g]?=some (.cells #[.map (some m)] 102 (0,0))->But (fun k=>k=g) w w'->w'.heap.size=w.heap.size->wpListIn F n Tryz.prog ops Q rest a w'):wpListIn F n Tryz.prog ops Q (⟨none,.store 102 x y,ty,pos,after,none⟩::rest) a w:=by
 refine Za4 (w':=w.setCell ⟨g,0,none⟩ (.map (some m))) hF (fun c=>nofun) ?_ (h _ ?_ ?_ (by simp [World.setCell]))
 ·unfold execOp
  simp only [hx,hy,Instr.storeAt,Instr.sureAddr,Sem.run_bind,Sem.run_pure,Result.andThen_ok,ZmP hg]
 ·exact heap_setCell_same w g 0 _ 102 _ hg
 ·exact⟨rfl,rfl,rfl,by simp [World.setCell],fun k hk hn=>Below.heap_setCell w ⟨g,0,none⟩ _ k hn⟩
theorem Zci (hF:∀ f,F.fn f)(h:∀ g w',g=w.heap.size->w'.heap[g]?=some (.cells #[] 103 (0,0))->Below w.heap.size w w'->wpListIn F n Tryz.prog ops Q rest (a.put dst (.pointer (some ⟨g,0,none⟩))) w'):wpListIn F n Tryz.prog ops Q (⟨dst,.alloc 103,ty,pos,after,none⟩::rest) a w:=by
 have e:(execOp a.eval ⟨dst,.alloc 103,ty,pos,after,none⟩).run Tryz.prog w=.ok (.value (.pointer (some ⟨w.heap.size,0,none⟩))) (w.alloc (.cells #[] 103)):=by
  unfold execOp
  kernel_rfl
 exact ZaF hF (fun c=>nofun) e (h _ _ rfl (heap_alloc_new w _) ((Below.refl _ w).alloc (Nat.le_refl _) _))
theorem ZdI (hF:∀ f,F.fn f){g:Nat}(hx:a.eval x=.pointer (some ⟨g,0,none⟩))(hy:a.eval y=.agg #[])(h:wpListIn F n Tryz.prog ops Q rest a w):wpListIn F n Tryz.prog ops Q (⟨none,.store 103 x y,ty,pos,after,none⟩::rest) a w:=by
 refine Za4 (w':=w) hF (fun c=>nofun) ?_ h
 unfold execOp
 simp only [hx,hy]
 kernel_rfl
end
theorem ld81 {w:World}{ad:Addr}{v:Value}(h:w.cell? ad=some v):(loadVar 81 ad).run Tryz.prog w=.ok v w:=by
 have ha:∀ w,(isAgg 81).run Tryz.prog w=.ok false w:=fun w=>by kernel_rfl
 simp [loadVar,ha,go_sem,h]
theorem ld80 {w:World}{ad:Addr}{v:Value}(h:w.cell? ad=some v):(loadVar 80 ad).run Tryz.prog w=.ok v w:=by
 have ha:∀ w,(isAgg 80).run Tryz.prog w=.ok false w:=fun w=>by kernel_rfl
 simp [loadVar,ha,go_sem,h]
theorem ld90 {w:World}{ad:Addr}{v:Value}(h:w.cell? ad=some v):(loadVar 90 ad).run Tryz.prog w=.ok v w:=by
 have ha:∀ w,(isAgg 90).run Tryz.prog w=.ok false w:=fun w=>by kernel_rfl
 simp [loadVar,ha,go_sem,h]
theorem ZeU {w:World}{ad:Addr}{v:Value}(h:w.cell? ad=some v):(loadVar 102 ad).run Tryz.prog w=.ok v w:=by
 have ha:∀ w,(isAgg 102).run Tryz.prog w=.ok false w:=fun w=>by kernel_rfl
 simp [loadVar,ha,go_sem,h]
end G
end Go.Proofs.YtnffbmipllhjdaaGreatDoor
