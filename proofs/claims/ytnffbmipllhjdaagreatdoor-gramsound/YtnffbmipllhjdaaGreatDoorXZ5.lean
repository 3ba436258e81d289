/- GramSound, part 5. -/
import Derived.Test.YtnffbmipllhjdaaGreatDoorXZ4
import Derived.Deep.Slices
import Derived.Test.YtnffbmipllhjdaaGreatDoorXZ1
import Derived.WalkKit
import Derived.BigQuiet
import Derived.Laws.StructEq
import Derived.Deep.MidRow
import Derived.ChangeKeysEq
import Derived.Test.YtnffbmipllhjdaaGreatDoorXZ2
import Derived.Deep.AppendSrc
set_option linter.all false
set_option maxHeartbeats 8000000
namespace Go.Proofs.YtnffbmipllhjdaaGreatDoor
section
open Go.RowKit Go.Shelf
attribute [local go_sem] Oper.semAt_some
section
variable {F:Fence}{n:Nat}{w w':World}{ops:Array Oper}{o:Oper}{rest:List Oper}{a:Act}{K:Act->World->Prop}{E:Prop}{Q:Exit->Act->World->Prop}{dst:Option Nat}{x y:Operand}{ty:TypeId}{pos:String}{after:Array Edge}
theorem Zhb (t:TypeId){ad:Addr}{v:Value}(hF:∀ f,F.fn f)(ho:o.op=.load t x)(hgd:o.guard=none)(hx:a.eval x=.pointer (some ad))(hl:(loadVar t ad).run Tryz.prog w=.ok v w)(h:K (a.put o.dst v) w):if Region.wanted o (yielded ops a.tmps)=true then Oper.wpIn F n Tryz.prog o a w K Q else E:=by
 rw [if_pos (by simp [Region.wanted,hgd])]
 unfold Oper.wpIn
 refine⟨fun f _=>hF f,?_⟩
 rw [Oper.semAt_plain F _ _ (fun c hc=>by rw [ho] at hc;cases hc)]
 unfold execOp
 simp only [ho,hx,Instr.loadAt,Instr.sureAddr,Sem.run_bind,Sem.run_pure,Result.andThen_ok,hl]
 exact h
theorem Zjz {d:Nat}{ty2:TypeId}{pos2:String}{after2:Array Edge}(hF:∀ f,F.fn f){i:Ins}(hd:∀ u,(a.put (some d) u).eval (.tmp d)=u)(hy:∀ u,(a.put (some d) u).eval y=ZdB i)(h:∀ g w',w'.heap[g]?=some (.cells (Zcf i) 182 (0,0))->Below w.heap.size w w'->w.heap.size<=g->wpListIn F n Tryz.prog ops Q rest (a.put (some d) (.pointer (some ⟨g,0,none⟩))) w'):wpListIn F n Tryz.prog ops Q (⟨some d,.alloc 182,ty,pos,after,none⟩::⟨none,.store 182 (.tmp d) y,ty2,pos2,after2,none⟩::rest) a w:=by
 refine ZaF hF (fun c=>nofun) (Zkm _ _ _ _ _ w) ?_
 have hg:=heap_alloc_new w (.cells (Zcf ins0) 182)
 have e:(storeVar 182 ⟨w.heap.size,0,none⟩ (ZdB i)).run Tryz.prog (w.alloc (.cells (Zcf ins0) 182))=.ok () ((w.alloc (.cells (Zcf ins0) 182)).setRow w.heap.size (Zcf i)):=run_storeVar_row _ _ 182 182 _ _ hg sizeI rfl (insA_all i)
 refine Za4 (w':=(w.alloc (.cells (Zcf ins0) 182)).setRow w.heap.size (Zcf i)) hF (fun c=>nofun) ?_ (h _ _ (setRow_heap _ _ _ _ 182 (0,0) hg) ?_ (Nat.le_refl _))
 ·unfold execOp
  simp only [hd,hy,Instr.storeAt,Instr.sureAddr,Sem.run_bind,Sem.run_pure,Result.andThen_ok,e]
 ·refine⟨rfl,rfl,rfl,by simp,fun k hk=>?_⟩
  rw [setRow_other _ _ _ _ (by omega)]
  exact Below.heap_alloc _ _ _ hk
theorem ZjA {d:Nat}{ty2:TypeId}{pos2:String}{after2:Array Edge}(h:wpListIn F n Tryz.prog ops Q (⟨some d,.alloc 182,ty,pos,after,none⟩::⟨none,.store 182 (.tmp d) y,ty2,pos2,after2,none⟩::rest) a w):wpListIn F n Tryz.prog ops Q (⟨some d,.alloc 182,ty,pos,after,none⟩::⟨none,.store 182 (.tmp d) y,ty2,pos2,after2,none⟩::rest) a w:=h
end
set_option maxRecDepth 100000 in
theorem reg42_3 (n0:Nat)(w:World)(l g4:Nat)(i:Ins)(R:Ending->World->Prop)(hb:w.heap[g4]?=some (.cells (Zcf i) 182 (0,0)))(hY0:∀ w',Below w.heap.size w w'->YieldAt Fence.wide (n0 - 1) Tryz.prog l #[fmV (fm i.op),ZdB i] w' R)
  (u1 u2 u3 u5 u6 u7 u8 u9 u10 u11 u12 u13 u14 u15 u16 u17 u18:Value) (Q:Exit->Act->World->Prop)
  (h:∀ e W',R e W'->∃ b,e=.returned (.bool b)/\Q .normal { tmps:=(List.toArray ((.func (.yield l) #[] #[]::u1::u2::u3::.pointer (some ⟨g4,0,none⟩)::u5::u6::u7::u8::u9::u10::.func (.yield l) #[] #[]::.pointer (some ⟨g4,0,none⟩)::.int .i64 i.op::fmV (fm i.op)::ZdB i::.bool b::.bool (!b)::u18::[]):List Value)),defers:=[] } W') :
  (Code.region 3 #[⟨some 11,.move (.tmp 0),264,"prog.go:85",#[],none⟩,⟨some 12,.fieldAddr 182 (.tmp 4) 0,0,"prog.go:85",#[],none⟩,⟨some 13,.load 3 (.tmp 12),3,"prog.go:85",#[⟨1,.data⟩],none⟩,⟨some 14,.call { callee:=.value (.func 209),args:=#[.tmp 13],argTypes:=#[3] },228,"prog.go:85",#[⟨2,.data⟩],none⟩,⟨some 15,.load 182 (.tmp 4),182,"prog.go:85",#[],none⟩,⟨some 16,.call { callee:=.value (.tmp 11),args:=#[.tmp 14,.tmp 15],argTypes:=#[228,182] },4,"prog.go:85",#[⟨0,.data⟩,⟨3,.data⟩,⟨4,.data⟩,⟨3,.chain⟩],none⟩,⟨some 17,.unOp .not 4 (.tmp 16),4,"prog.go:85",#[⟨5,.data⟩],none⟩] true).wpIn Fence.wide n0 Tryz.prog Q { tmps:=(List.toArray ((.func (.yield l) #[] #[]::u1::u2::u3::.pointer (some ⟨g4,0,none⟩)::u5::u6::u7::u8::u9::u10::u11::u12::u13::u14::u15::u16::u17::u18::[]):List Value)),defers:=[] } w:=by
 have hD:Below w.heap.size w w.drew:=(Below.refl _ w).drew
 have hlt:=(Array.getElem?_eq_some_iff.1 hb).1
 have hB:Hid (∀ w',Below w.heap.size w w'->w'.heap[g4]?=some (.cells (Zcf i) 182 (0,0))):=fun w' h=>(h.block g4 hlt).trans hb
 have hY:=Zaa hY0
 clear hY0 hb
 replace h:=Zaa h
 refine Code.wpIn_mono NoPanic.imp ?_
 refine wpIn_region_any (by kernel_rfl) ?_
 change wpAnyIn _ _ _ _ _ _ _ _ _ (World.drew w)
 refine wpAnyIn_take (i:=0) (oi:=⟨some 11,.move (.tmp 0),264,"prog.go:85",#[],none⟩) (v:=?_) rfl rfl (by kernel_rfl) (by kernel_rfl) (by kernel_rfl) (fun _ _ _ h=>h) ⟨Or.inl ⟨by rfl,?_⟩,fun _=>rfl⟩ ?_
 rotate_left
 ·intro w'
  go_simp
  try with_reducible rfl
 try simp only [Act.put,PuA]
 refine wpAnyIn_take (i:=1) (oi:=⟨some 12,.fieldAddr 182 (.tmp 4) 0,0,"prog.go:85",#[],none⟩) (v:=?_) rfl rfl (by kernel_rfl) (by kernel_rfl) (by kernel_rfl) (fun _ _ _ h=>h) ⟨Or.inl ⟨by rfl,?_⟩,fun _=>rfl⟩ ?_
 rotate_left
 ·intro w'
  go_simp
  try with_reducible rfl
 try simp only [Act.put,PuA]
 refine wpAnyIn_ready (rs:=[2,4]) (by kernel_rfl) (by simp) ?_
 refine (AllReadyIn.cons (o:=⟨some 13,.load 3 (.tmp 12),3,"prog.go:85",#[⟨1,.data⟩],none⟩) rfl (fun K2 hK2=>?_) (AllReadyIn.cons (o:=⟨some 15,.load 182 (.tmp 4),182,"prog.go:85",#[],none⟩) rfl (fun K4 hK4=>?_) AllReadyIn.nil))
 ·refine Zhb 3 Zad rfl rfl rfl (ld3 (Zal (hB.out _ hD) 0 (v:=.int .i64 i.op) rfl)) (hK2 _ _ ?_)
  clear hK2 K2
  try simp only [Act.put,PuA]
  refine wpAnyIn_ready (rs:=[3,4]) (by kernel_rfl) (by simp) ?_
  refine (AllReadyIn.cons (o:=⟨some 14,.call { callee:=.value (.func 209),args:=#[.tmp 13],argTypes:=#[3] },228,"prog.go:85",#[⟨2,.data⟩],none⟩) rfl (fun K3 hK3=>?_) (AllReadyIn.cons (o:=⟨some 15,.load 182 (.tmp 4),182,"prog.go:85",#[],none⟩) rfl (fun K4 hK4=>?_) AllReadyIn.nil))
  ·go_simp
   refine⟨trivial,fun h=>(by cases h),(callsIn_wide.2 (Zd0 i.op _)).mono ?_⟩
   rintro e w4 ⟨rfl,B4⟩
   replace B4:Below w.heap.size w.drew w4:=B4
   obtain⟨fn,tmps,assign,body,hy,hR⟩:=hY.out w4 (hD.trans B4)
   refine hK3 _ _ ?_
   clear hK3 K3
   try simp only [Act.put,PuA]
   refine wpAnyIn_ready (rs:=[4]) (by kernel_rfl) (by simp) ?_
   refine (AllReadyIn.cons (o:=⟨some 15,.load 182 (.tmp 4),182,"prog.go:85",#[],none⟩) rfl (fun K4 hK4=>?_) AllReadyIn.nil)
   refine Zhb 182 Zad rfl rfl rfl (loadI (hB.out _ (hD.trans B4))) (hK4 _ _ ?_)
   clear hK4 K4
   try simp only [Act.put,PuA]
   refine wpAnyIn_ready (rs:=[5]) (by kernel_rfl) (by simp) ?_
   refine (AllReadyIn.cons (o:=⟨some 16,.call { callee:=.value (.tmp 11),args:=#[.tmp 14,.tmp 15],argTypes:=#[228,182] },4,"prog.go:85",#[⟨0,.data⟩,⟨3,.data⟩,⟨4,.data⟩,⟨3,.chain⟩],none⟩) rfl (fun K5 hK5=>?_) AllReadyIn.nil)
   go_simp
   refine⟨fun h=>(by cases h),hR.mono ?_⟩
   rintro e W3 hRe
   obtain⟨b,rfl,hq⟩:=h.out _ _ hRe
   refine hK5 _ _ ?_
   clear hK5 K5
   try simp only [Act.put,PuA]
   refine wpAnyIn_take (i:=6) (oi:=⟨some 17,.unOp .not 4 (.tmp 16),4,"prog.go:85",#[⟨5,.data⟩],none⟩) (v:=?_) rfl rfl (by kernel_rfl) (by kernel_rfl) (by kernel_rfl) (fun _ _ _ h=>h) ⟨Or.inl ⟨by rfl,?_⟩,fun _=>rfl⟩ ?_
   rotate_left
   ·intro w'
    go_simp
    try with_reducible rfl
   try simp only [Act.put,PuA]
   refine wpAnyIn_done (by kernel_rfl) ?_ _
   refine NoPanic.normal ?_
   exact hq
  ·refine Zhb 182 Zad rfl rfl rfl (loadI (hB.out _ hD)) (hK4 _ _ ?_)
   clear hK4 K4
   try simp only [Act.put,PuA]
   refine wpAnyIn_ready (rs:=[3]) (by kernel_rfl) (by simp) ?_
   refine (AllReadyIn.cons (o:=⟨some 14,.call { callee:=.value (.func 209),args:=#[.tmp 13],argTypes:=#[3] },228,"prog.go:85",#[⟨2,.data⟩],none⟩) rfl (fun K3 hK3=>?_) AllReadyIn.nil)
   go_simp
   refine⟨trivial,fun h=>(by cases h),(callsIn_wide.2 (Zd0 i.op _)).mono ?_⟩
   rintro e w4 ⟨rfl,B4⟩
   replace B4:Below w.heap.size w.drew w4:=B4
   obtain⟨fn,tmps,assign,body,hy,hR⟩:=hY.out w4 (hD.trans B4)
   refine hK3 _ _ ?_
   clear hK3 K3
   try simp only [Act.put,PuA]
   refine wpAnyIn_ready (rs:=[5]) (by kernel_rfl) (by simp) ?_
   refine (AllReadyIn.cons (o:=⟨some 16,.call { callee:=.value (.tmp 11),args:=#[.tmp 14,.tmp 15],argTypes:=#[228,182] },4,"prog.go:85",#[⟨0,.data⟩,⟨3,.data⟩,⟨4,.data⟩,⟨3,.chain⟩],none⟩) rfl (fun K5 hK5=>?_) AllReadyIn.nil)
   go_simp
   refine⟨fun h=>(by cases h),hR.mono ?_⟩
   rintro e W3 hRe
   obtain⟨b,rfl,hq⟩:=h.out _ _ hRe
   refine hK5 _ _ ?_
   clear hK5 K5
   try simp only [Act.put,PuA]
   refine wpAnyIn_take (i:=6) (oi:=⟨some 17,.unOp .not 4 (.tmp 16),4,"prog.go:85",#[⟨5,.data⟩],none⟩) (v:=?_) rfl rfl (by kernel_rfl) (by kernel_rfl) (by kernel_rfl) (fun _ _ _ h=>h) ⟨Or.inl ⟨by rfl,?_⟩,fun _=>rfl⟩ ?_
   rotate_left
   ·intro w'
    go_simp
    try with_reducible rfl
   try simp only [Act.put,PuA]
   refine wpAnyIn_done (by kernel_rfl) ?_ _
   refine NoPanic.normal ?_
   exact hq
 ·refine Zhb 182 Zad rfl rfl rfl (loadI (hB.out _ hD)) (hK4 _ _ ?_)
  clear hK4 K4
  try simp only [Act.put,PuA]
  refine wpAnyIn_ready (rs:=[2]) (by kernel_rfl) (by simp) ?_
  refine (AllReadyIn.cons (o:=⟨some 13,.load 3 (.tmp 12),3,"prog.go:85",#[⟨1,.data⟩],none⟩) rfl (fun K2 hK2=>?_) AllReadyIn.nil)
  refine Zhb 3 Zad rfl rfl rfl (ld3 (Zal (hB.out _ hD) 0 (v:=.int .i64 i.op) rfl)) (hK2 _ _ ?_)
  clear hK2 K2
  try simp only [Act.put,PuA]
  refine wpAnyIn_ready (rs:=[3]) (by kernel_rfl) (by simp) ?_
  refine (AllReadyIn.cons (o:=⟨some 14,.call { callee:=.value (.func 209),args:=#[.tmp 13],argTypes:=#[3] },228,"prog.go:85",#[⟨2,.data⟩],none⟩) rfl (fun K3 hK3=>?_) AllReadyIn.nil)
  go_simp
  refine⟨trivial,fun h=>(by cases h),(callsIn_wide.2 (Zd0 i.op _)).mono ?_⟩
  rintro e w4 ⟨rfl,B4⟩
  replace B4:Below w.heap.size w.drew w4:=B4
  obtain⟨fn,tmps,assign,body,hy,hR⟩:=hY.out w4 (hD.trans B4)
  refine hK3 _ _ ?_
  clear hK3 K3
  try simp only [Act.put,PuA]
  refine wpAnyIn_ready (rs:=[5]) (by kernel_rfl) (by simp) ?_
  refine (AllReadyIn.cons (o:=⟨some 16,.call { callee:=.value (.tmp 11),args:=#[.tmp 14,.tmp 15],argTypes:=#[228,182] },4,"prog.go:85",#[⟨0,.data⟩,⟨3,.data⟩,⟨4,.data⟩,⟨3,.chain⟩],none⟩) rfl (fun K5 hK5=>?_) AllReadyIn.nil)
  go_simp
  refine⟨fun h=>(by cases h),hR.mono ?_⟩
  rintro e W3 hRe
  obtain⟨b,rfl,hq⟩:=h.out _ _ hRe
  refine hK5 _ _ ?_
  clear hK5 K5
  try simp only [Act.put,PuA]
  refine wpAnyIn_take (i:=6) (oi:=⟨some 17,.unOp .not 4 (.tmp 16),4,"prog.go:85",#[⟨5,.data⟩],none⟩) (v:=?_) rfl rfl (by kernel_rfl) (by kernel_rfl) (by kernel_rfl) (fun _ _ _ h=>h) ⟨Or.inl ⟨by rfl,?_⟩,fun _=>rfl⟩ ?_
  rotate_left
  ·intro w'
   go_simp
   try with_reducible rfl
  try simp only [Act.put,PuA]
  refine wpAnyIn_done (by kernel_rfl) ?_ _
  refine NoPanic.normal ?_
  exact hq
end
section
open Go.RowKit Go.Shelf
attribute [local go_sem] Oper.semAt_some
def KO (B0:Nat)(X:Nat->Prop)(W W':World):Prop:=W.heap.size<=W'.heap.size/\∀ k,k<B0->k<W.heap.size->¬ X k->W'.heap[k]?=W.heap[k]?
theorem KO.refl (B0:Nat)(X:Nat->Prop)(W:World):KO B0 X W W:=⟨Nat.le_refl _,fun _ _ _ _=>rfl⟩
theorem KO.trans {B0:Nat}{X:Nat->Prop}{A B C:World}(h:KO B0 X A B)(k:KO B0 X B C):KO B0 X A C:=⟨Nat.le_trans h.1 k.1,fun i hi hl hn=>(k.2 i hi (by have:=h.1;omega) hn).trans (h.2 i hi hl hn)⟩
theorem KO.below {B0:Nat}{X:Nat->Prop}{W W':World}{B:Nat}(h:Below B W W')(hB:W.heap.size<=B):KO B0 X W W':=⟨h.size,fun k _ hl _=>h.block k (by omega)⟩
def HsI (w:World)(Y:Nat->Prop)(a:Option Addr)(L:List Ins):Prop:=L=[]\/∃ b off cur t fr,a=some ⟨b,off,none⟩/\Y b/\w.heap[b]?=some (.cells cur t fr)/\∀ k i,L[k]?=some i->∀ j u,(Zcf i)[j]?=some u->cur[off+k * 7+j]?=some u
theorem HsI.load {w w':World}{Y:Nat->Prop}{a:Option Addr}{L:List Ins}(h:HsI w Y a L)(hk:∀ k,Y k->k<w.heap.size->w'.heap[k]?=w.heap[k]?){k:Nat}{i:Ins}(hi:L[k]?=some i):∃ b off,a=some ⟨b,off,none⟩/\(loadVar 182 ⟨b,off+k * 7,none⟩).run Tryz.prog w'=.ok (ZdB i) w':=by
 rcases h with rfl|⟨b,off,cur,t,fr,rfl,hy,hb,hc⟩
 ·simp at hi
 ·refine⟨b,off,rfl,loadIc (fun j u hj=>?_)⟩
  have hb':=(hk b hy (Array.getElem?_eq_some_iff.1 hb).1).trans hb
  rw [cell_of_row w' b _ _ t fr hb']
  exact hc k i hi j u hj
theorem HsI.kept {w w':World}{Y Y':Nat->Prop}{a:Option Addr}{L:List Ins}(h:HsI w Y a L)(hk:∀ k,Y k->k<w.heap.size->w'.heap[k]?=w.heap[k]?)(hY:∀ k,k<w.heap.size->Y k->Y' k):HsI w' Y' a L:=by
 rcases h with rfl|⟨b,off,cur,t,fr,rfl,hy,hb,hc⟩
 ·exact .inl rfl
 ·have hl:=(Array.getElem?_eq_some_iff.1 hb).1
  exact .inr ⟨b,off,cur,t,fr,rfl,hY b hl hy,(hk b hy hl).trans hb,hc⟩
theorem RI.hs {w:World}{v:Value}{L:List Ins}(h:RI w v L):∃ a c,v=.slice a L.length c/\HsI w (fun k=>v.ownBlock=some k) a L:=by
 rcases h.2 with⟨rfl,h0⟩|⟨g,cap,cur,rfl,_,hg,_,_,_,ht⟩
 ·exact⟨none,0,by rw [h0],.inl (List.eq_nil_of_length_eq_zero h0)⟩
 ·refine⟨_,cap,rfl,.inr ⟨g,0,cur,182,(0,0),rfl,rfl,hg,fun k i hi j u hj=>?_⟩⟩
  have h1:=Zjo L k i hi j u hj
  rw [<- ht] at h1
  have h2:=(List.getElem?_eq_some_iff.1 h1).1
  rw [List.getElem?_take_of_lt (by simp at h2;omega)] at h1
  rw [Nat.zero_add]
  simpa using h1
def encI {Pr:Ins->Prop}(x:{ i:Ins // Pr i }):Array Value:=#[fmV (fm x.1.op),ZdB x.1]
section
variable {F:Fence}{n:Nat}{w w':World}{ops:Array Oper}{rest:List Oper}{a:Act}{Q:Exit->Act->World->Prop}{dst:Option Nat}{x y:Operand}{ty:TypeId}{pos:String}{after:Array Edge}
theorem Zl0 (hF:∀ f,F.fn f){ad:Option Addr}{m c:Nat}(hx:a.eval x=.slice ad m c)(h:∀ g w',w'.heap[g]?=some (.cells #[.slice ad m c] 72 (0,0))->Below w.heap.size w w'->w.heap.size<=g->wpListIn F n Tryz.prog ops Q rest (a.put dst (.pointer (some ⟨g,0,none⟩))) w'):wpListIn F n Tryz.prog ops Q (⟨dst,.box 72 x,ty,pos,after,none⟩::rest) a w:=by
 have e:(execOp a.eval ⟨dst,.box 72 x,ty,pos,after,none⟩).run Tryz.prog w=.ok (.value (.pointer (some ⟨w.heap.size,0,none⟩))) (w.alloc (.cells #[.slice ad m c] 72)):=by
  unfold execOp
  simp only [hx]
  kernel_rfl
 exact ZaF hF (fun c=>nofun) e (h _ _ (heap_alloc_new w _) ((Below.refl _ w).alloc (Nat.le_refl _) _) (Nat.le_refl _))
end
theorem ld29 {w:World}{ad:Addr}{v:Value}(h:w.cell? ad=some v):(loadVar 72 ad).run Tryz.prog w=.ok v w:=by
 have ha:∀ w,(isAgg 72).run Tryz.prog w=.ok false w:=fun w=>by kernel_rfl
 simp [loadVar,ha,go_sem,h]
theorem Zl1 (n:Nat)(ad:Option Addr)(m c:Nat)(w:World):CallsIn Fence.wide n Tryz.prog 163 #[.slice ad m c] w fun e w'=>∃ g,e=.returned (.func (.func 208) #[] #[.pointer (some ⟨g,0,none⟩)])/\w'.heap[g]?=some (.cells #[.slice ad m c] 72 (0,0))/\Below w.heap.size w w'/\w.heap.size<=g:=by
 have hmf:∀ (fn:Fn) (first cap:Array Value) (w:World),(Instr.makeFunc fn first cap).run Tryz.prog w=.ok (.func fn first cap) w:=fun _ _ _ _=>rfl
 refine callsIn_of_wp Tryz.func163 rfl trivial ?_ rfl
 simp only [Tryz.ntmps163,List.size_toArray,List.length_cons,List.length_nil,Nat.reduceAdd,Nat.reduceSub,Array.replicate_succ,Array.replicate_zero,List.push_toArray,List.append_toArray,List.nil_append,List.cons_append]
 gi_wp2_with (first|((with_reducible refine Zbh 72 ?_);refine Zl0 Zad rfl ?_;intro g w1 hb B1 hge;replace hb:=Zaa hb))
 go_ret
 exact⟨g,rfl,hb.out,B1,hge⟩
set_option maxRecDepth 100000 in
theorem Zhc {Pr:Ins->Prop}(B0:Nat)(X Y:Nat->Prop)(n:Nat)(B:Nat)(ad:Option Addr)(c:Nat)(L:List Ins)(w:World)(hBb:w.heap[B]?=some (.cells #[.slice ad L.length c] 72 (0,0)))(hL:HsI w Y ad L)(hY:∀ k,Y k->k<B0/\¬ X k)(hB0:B<B0)(hXB:¬ X B)(hPr:∀ i ∈ L,Pr i)(hlen:L.length<=100000) :
  SeqStopsK Fence.wide n Tryz.prog 208 #[.pointer (some ⟨B,0,none⟩)] (encI (Pr:=Pr)) (KO B0 X) (fun xs=>xs.map (·.1)=L) (fun pre=>pre.map (·.1) <+: L) L.length w:=fun l J Jx W hW hAJ hAJx hYY h0=>by
 have hBl:B<w.heap.size:=(Array.getElem?_eq_some_iff.1 hBb).1
 have hBW:=(hW.block B hBl).trans hBb
 have cB:=Zal hBW 0 (v:=.slice ad L.length c) rfl
 have hLW:Hid (HsI W Y ad L):=hL.kept (fun k _ hl=>hW.block k hl) (fun k _ h=>h)
 replace hYY:Hid _:=Zaa hYY
 replace hW:=Zaa hW
 replace hAJh:=Zaa hAJ
 replace h0:=Zaa h0
 replace hPr:=Zaa hPr
 replace hBW:=Zaa hBW
 replace hY:=Zaa hY
 clear hL hBb
 show CallsIn Fence.wide n Tryz.prog 208 #[.func (.yield l) #[] #[],.pointer (some ⟨B,0,none⟩)] W _
 refine callsIn_of_wp Tryz.func208 rfl trivial ?_ rfl
 simp only [Tryz.ntmps208,List.size_toArray,List.length_cons,List.length_nil,Nat.reduceAdd,Nat.reduceSub,Array.replicate_succ,Array.replicate_zero,List.push_toArray,List.append_toArray,List.nil_append,List.cons_append]
 gi_wp2_with (first|((with_reducible refine Zah 72 ?_);refine Zai 72 Zad rfl (ld29 cB) ?_))
 gi_loopw [7] (fun iv wr=>∃ (k:Nat) (xs:List { i:Ins // Pr i }),iv=.int .i64 ((k:Nat):Int)/\k<=L.length/\Hid (xs.map (·.1)=L.take k)/\Hid (J xs wr)/\Hid (KO B0 X W wr)) (fun iv _=>L.length - (intOf iv).toNat)
 case atStart=>exact⟨0,[],rfl,Nat.zero_le _,(rfl:_=_),h0,KO.refl _ _ _⟩
 case round =>
  obtain⟨k,xs,rfl,hkl,hxs,hJr,hkr⟩:=hrel
  by_cases hlt:k<L.length
  ·have i1:(k:Int)<(L.length:Int):=by omega
   obtain⟨i,hi⟩:∃ i,L[k]?=some i:=⟨_,List.getElem?_eq_getElem hlt⟩
   obtain⟨b,off,hadr,hld⟩:=hLW.out.load (w':=wr) (fun j hj hl=>hkr.out.2 j (hY.out j hj).1 hl (hY.out j hj).2) hi
   subst hadr
   have hPi:=hPr.out i (List.mem_of_getElem? hi)
   have hxl:xs.length=k:=by
    have:=congrArg List.length hxs.out
    simp at this
    omega
   replace hld:=Zaa hld
   have hltH:=Zaa hlt
   gi_wp2_with (first|((with_reducible refine Zah 182 ?_);refine Zai 182 Zad rfl hld.out ?_)|((with_reducible refine ZjA ?_);refine Zjz (i:=i) Zad (fun _=>rfl) (fun _=>rfl) ?_;intro g4 w4 hb4 B4 hg4;replace hb4:=Zaa hb4;replace B4:=Zaa B4))
   refine reg42_3 _ w4 l g4 i (fun e W'=>(e=.returned (.bool true)/\J (xs++[⟨i,hPi⟩]) W'/\KO B0 X wr W')\/(e=.returned (.bool false)/\Jx (xs++[⟨i,hPi⟩]) W')) hb4.out (fun w' hb=>?_) _ _ _ _ _ _ _ _ _ _ _ _ _ _ _ _ _ _ ?_
   ·have hb2:Below wr.heap.size wr w':=B4.out.trans (hb.mono B4.out.size)
    refine (ZbW (hYY.out xs ⟨i,hPi⟩ w' (Za5 hAJh.out hJr.out hb2) (by omega))).mono ?_
    rintro e W' (⟨h1,h2,h3⟩|⟨h1,h2⟩)
    ·exact .inl ⟨h1,h2,(KO.below hb2 (Nat.le_refl _)).trans h3⟩
    ·exact .inr ⟨h1,h2⟩
   ·rintro e W5 (⟨rfl,hJ5,hk5⟩|⟨rfl,hJx5⟩)
    ·refine⟨true,rfl,?_⟩
     have hJ6:=Zaa hJ5
     have hk6:Hid (KO B0 X W W5):=hkr.out.trans hk5
     have hx6:Hid ((xs++[(⟨i,hPi⟩:{ i:Ins // Pr i })]).map (·.1)=L.take (k+1)):=by
      show _=_
      rw [List.map_append,hxs.out,List.take_add_one,hi]
      rfl
     clear hJ5 hk5
     gi_wp2
     go_roundw
     case rel=>exact⟨k+1,_,by go_num,hltH.out,hx6,hJ6,hk6⟩
     case measure=>have:=hltH.out;simp [intOf];omega
    ·refine⟨false,rfl,?_⟩
     have hpre:Hid ((xs++[(⟨i,hPi⟩:{ i:Ins // Pr i })]).map (·.1) <+: L):=by
      show _ <+: _
      rw [List.map_append,hxs.out]
      have:L.take k++[i]=L.take (k+1):=by rw [List.take_add_one,hi];rfl
      show L.take k++[i] <+: L
      rw [this]
      exact List.take_prefix _ _
     replace hJx5:=Zaa hJx5
     gi_wp2
     refine bodyPost_ret (results_none rfl _ _ _) rfl ?_
     exact⟨⟨_,rfl⟩,.inr ⟨_,hpre.out,hJx5.out⟩⟩
  ·obtain rfl:k=L.length:=by omega
   have hx2:Hid (xs.map (·.1)=L):=by have:=hxs.out;rwa [List.take_length] at this
   gi_wp2
   go_end0
   exact⟨⟨_,rfl⟩,.inl ⟨xs,hx2.out,hJr.out⟩⟩
end
section
open Go.RowKit Go.ChangeShapes Go.WideShapes Go.ChangeAt
def ArgR (w:World):Nat->List Value->Prop
 | 0,cs=>∃ (k:Int) (s:S4) (a:Option Addr) (n c:Nat) (mn mx:Int),cs=(reA k s (.slice a n c) mn mx).toList/\OkS s
 | d+1,cs=>∃ (k:Int) (s:S4) (a:Option Addr) (n c:Nat) (mn mx:Int),cs=(reA k s (.slice a n c) mn mx).toList/\OkS s/\n<=maxLen/\(0<n->∃ b off,a=some ⟨b,off,none⟩/\b<w.heap.size/\∀ i,i<n->∃ cs',cs'.length=8/\(∀ j u,cs'[j]?=some u->w.cell? ⟨b,off+i * 8+j,none⟩=some u)/\ArgR w d cs')
theorem eight {cs:List Value}(h:cs.length=8):∃ v0 v1 v2 v3 v4 v5 v6 v7,cs=[v0,v1,v2,v3,v4,v5,v6,v7]:=by
 match cs,h with
 | [v0,v1,v2,v3,v4,v5,v6,v7],_=>exact⟨v0,v1,v2,v3,v4,v5,v6,v7,rfl⟩
theorem four {cs:List Value}(h:cs.length=4):∃ v0 v1 v2 v3,cs=[v0,v1,v2,v3]:=by
 match cs,h with
 | [v0,v1,v2,v3],_=>exact⟨v0,v1,v2,v3,rfl⟩
theorem Zl2:Tryz.prog.cellsOf 27=8:=by kernel_rfl
theorem cells3:Tryz.prog.cellsOf 3=1:=by kernel_rfl
theorem cells22:Tryz.prog.cellsOf 22=1:=by kernel_rfl
theorem Zl3:Tryz.prog.cellsOf 24=4:=by kernel_rfl
theorem cells25:Tryz.prog.cellsOf 25=1:=by kernel_rfl
section
variable {H:Type}{enc:TypeId × Value->H}{W:World}{base:Nat}
set_option maxRecDepth 100000 in
theorem set_open {fuel:Nat}{cs:List Value}{x:DataW H × List MemPlace}(h:DataW.trod enc Tryz.prog W base (fun _=>true) true fuel 24 cs=some x):∃ s:S4,cs=[.int .u64 s.a,.int .u64 s.b,.int .u64 s.c,.int .u64 s.d]/\(∀ z ∈ [s.a,s.b,s.c,s.d],(Lit.int .u64 z).wf=true):=by
 obtain⟨xs,m,rfl,_,hl,hxl,hf⟩:=DataW.trod_array Tryz.underlying24 h
 rw [Zl3] at hl
 obtain⟨v0,v1,v2,v3,rfl⟩:=four hl
 have g0:=hf 0 (by omega)
 have g1:=hf 1 (by omega)
 have g2:=hf 2 (by omega)
 have g3:=hf 3 (by omega)
 simp only [cells22] at g0 g1 g2 g3
 obtain⟨a0,e0,_,f0⟩:=DataW.trod_int Tryz.underlying22 (g0.trans (List.getElem?_eq_getElem (by omega)))
 obtain⟨a1,e1,_,f1⟩:=DataW.trod_int Tryz.underlying22 (g1.trans (List.getElem?_eq_getElem (by omega)))
 obtain⟨a2,e2,_,f2⟩:=DataW.trod_int Tryz.underlying22 (g2.trans (List.getElem?_eq_getElem (by omega)))
 obtain⟨a3,e3,_,f3⟩:=DataW.trod_int Tryz.underlying22 (g3.trans (List.getElem?_eq_getElem (by omega)))
 simp at e0 e1 e2 e3
 exact⟨⟨a0,a1,a2,a3⟩,by rw [e0,e1,e2,e3],by simp [f0,f1,f2,f3]⟩
theorem okS_wf {s:S4}(h:∀ z ∈ [s.a,s.b,s.c,s.d],(Lit.int .u64 z).wf=true):OkS s:=fun k hk=>by
 have key:∀ z,(Lit.int .u64 z).wf=true->0<=z/\z<18446744073709551616:=fun z hz=>by
  have:=bounds_u64 hz
  omega
 rcases (show k=0\/k=1\/k=2\/k=3 by omega) with rfl|rfl|rfl|rfl
 ·exact key s.a (h s.a (by simp))
 ·exact key s.b (h s.b (by simp))
 ·exact key s.c (h s.c (by simp))
 ·exact key s.d (h s.d (by simp))
theorem Zl4 {fuel:Nat}{cs:List Value}{x:DataW H × List MemPlace}(h:DataW.trod enc Tryz.prog W base (fun _=>true) true fuel 27 cs=some x) :
  ∃ (k:Int) (s:S4) (v:Value) (mn mx:Int) (m:Nat) (y:DataW H × List MemPlace),cs=(reA k s v mn mx).toList/\OkS s/\DataW.trod enc Tryz.prog W base (fun _=>true) true m 25 [v]=some y:=by
 obtain⟨xs,m,rfl,_,hl,hxl,hf⟩:=DataW.trod_struct Tryz.underlying27 h
 rw [Zl2] at hl
 obtain⟨v0,v1,v2,v3,v4,v5,v6,v7,rfl⟩:=eight hl
 have hxl':xs.length=5:=hxl
 have g0:=hf 0 { name:= "Kind",type:=3,offset:=0,embedded:=false,tag:= "",pkgPath:= "",byteOffset:=0 } rfl
 have g1:=hf 1 { name:= "Set",type:=24,offset:=1,embedded:=false,tag:= "",pkgPath:= "",byteOffset:=8 } rfl
 have g2:=hf 2 { name:= "L",type:=25,offset:=5,embedded:=false,tag:= "",pkgPath:= "",byteOffset:=40 } rfl
 have g3:=hf 3 { name:= "Min",type:=3,offset:=6,embedded:=false,tag:= "",pkgPath:= "",byteOffset:=64 } rfl
 have g4:=hf 4 { name:= "Max",type:=3,offset:=7,embedded:=false,tag:= "",pkgPath:= "",byteOffset:=72 } rfl
 dsimp only at g0 g1 g2 g3 g4
 rw [cells3] at g0 g3 g4
 rw [Zl3] at g1
 rw [cells25] at g2
 obtain⟨a0,e0,_,f0⟩:=DataW.trod_int Tryz.underlying3 (g0.trans (List.getElem?_eq_getElem (by omega)))
 obtain⟨s,e1,e1w⟩:=set_open (g1.trans (List.getElem?_eq_getElem (by omega)))
 obtain⟨a3,e3,_,f3⟩:=DataW.trod_int Tryz.underlying3 (g3.trans (List.getElem?_eq_getElem (by omega)))
 obtain⟨a4,e4,_,f4⟩:=DataW.trod_int Tryz.underlying3 (g4.trans (List.getElem?_eq_getElem (by omega)))
 simp at e0 e1 e3 e4
 refine⟨a0,s,v5,a3,a4,m,_,?_,okS_wf e1w,g2.trans (List.getElem?_eq_getElem (by omega))⟩
 simp [reA,e0,e1,e3,e4]
theorem argR_of:∀ (d fuel:Nat)(cs:List Value)(x:DataW H × List MemPlace),DataW.trod enc Tryz.prog W base (fun _=>true) true fuel 27 cs=some x->ArgR W d cs:=by
 intro d
 induction d with
 | zero =>
  intro fuel cs x h
  obtain⟨k,s,v,mn,mx,m,y,rfl,hok,h2⟩:=Zl4 h
  rcases Go.Deep.open_slice Tryz.underlying25 h2 with⟨hcs,_⟩|⟨a,l,c,_,_,_,_,hcs,_⟩
  ·simp at hcs;subst hcs;exact⟨k,s,none,0,0,mn,mx,rfl,hok⟩
  ·simp at hcs;subst hcs;exact⟨k,s,some a,l,c,mn,mx,rfl,hok⟩
 | succ d ih =>
  intro fuel cs x h
  obtain⟨k,s,v,mn,mx,m,y,rfl,hok,h2⟩:=Zl4 h
  rcases Go.Deep.open_slice Tryz.underlying25 h2 with⟨hcs,_⟩|⟨a,l,c,mm,n,D,Pl,hcs,_,hl,hm,hmm,_,hx⟩
  ·simp at hcs;subst hcs;exact⟨k,s,none,0,0,mn,mx,rfl,hok,Nat.zero_le _,fun h=>by omega⟩
  ·simp at hcs
   subst hcs
   simp at hmm
   refine⟨k,s,some a,l,c,mn,mx,rfl,hok,by omega,fun hp=>?_⟩
   have key:∀ i,i<l->∃ cs',cs'.length=8/\(∀ j u,cs'[j]?=some u->W.cell? (a.add (i * 8+j))=some u)/\ArgR W d cs':=by
    intro i hi
    obtain⟨cs',h1,h2⟩:=hx i (by omega)
    rw [Zl2] at h1
    obtain⟨_,hlen,hcell⟩:=World.cells?_some h1
    refine⟨cs',hlen,fun j u hj=>?_,ih _ _ _ h2⟩
    have hj':=(List.getElem?_eq_some_iff.1 hj).1
    have:=hcell j (by omega)
    rw [Go.Deep.add_add] at this
    rw [this]
    exact hj
   obtain⟨b,off,spot⟩:=a
   obtain⟨cs0,hl0,hc0,_⟩:=key 0 hp
   obtain⟨u0,hu0⟩:∃ u,cs0[0]?=some u:=⟨_,List.getElem?_eq_getElem (by omega)⟩
   have hc:=hc0 0 u0 hu0
   have hspot:spot=none:=by simpa [Addr.add] using World.cell?_spot hc
   subst hspot
   refine⟨b,off,rfl,?_,fun i hi=>?_⟩
   ·have:=World.block_lt_of_cell? W _ hc
    rwa [Zav] at this
   ·obtain⟨cs',h1,h2,h3⟩:=key i hi
    refine⟨cs',h1,fun j u hj=>?_,h3⟩
    have:=h2 j u hj
    rwa [Zav,<- Nat.add_assoc] at this
set_option maxRecDepth 100000 in
theorem came_re {v:Value}{b2:Nat}{d:DataW H}{p:List MemPlace}(hv:Value.okWide Tryz.prog W .any b2 27 v)(h:DataW.Trod enc Tryz.prog W base (fun _=>true) true 27 v d p):∃ cs:Array Value,v=.agg cs/\∀ d,ArgR W d cs.toList:=by
 obtain⟨cs,rfl,hs⟩:=okWide_struct Tryz.underlying27 hv
 obtain⟨fuel,h⟩:=h
 exact⟨cs,rfl,fun d=>argR_of d fuel _ _ h⟩
instance:Inhabited Ins:=⟨ins0⟩
end
end
namespace G
open Go.RowKit
abbrev Tx:=List UInt8
inductive Qf where
 | nil:Qf
 | cons:Int->Tx->Qf->Qf->Qf
deriving DecidableEq
structure Qy where
 op:Int
 tx:Tx
 l:Qf
deriving DecidableEq
def Qf.ls:Qf->List Qy
 | .nil=>[]
 | .cons o t k r=>⟨o,t,k⟩::r.ls
def fq:List Qy->Qf
 | []=>.nil
 | q::r=>.cons q.op q.tx q.l (fq r)
theorem fq_ls:∀ f:Qf,fq f.ls=f
 | .nil=>rfl
 | .cons o t k r=>by simp [Qf.ls,fq,fq_ls r]
theorem Zgb:∀ l:List Qy,(fq l).ls=l
 | []=>rfl
 | q::r=>by simp [Qf.ls,fq,Zgb r]
def Qf.len:Qf->Nat
 | .nil=>0
 | .cons _ _ _ r=>r.len+1
theorem ZdE:∀ f:Qf,f.ls.length=f.len
 | .nil=>rfl
 | .cons o t k r=>by simp [Qf.ls,Qf.len,ZdE r]
def Qf.sz:Qf->Nat
 | .nil=>0
 | .cons _ _ k r=>1+k.sz+r.sz
def Qy.sz (q:Qy):Nat:=1+q.l.sz
theorem sz_ls:∀ f:Qf,(f.ls.map Qy.sz).sum=f.sz
 | .nil=>rfl
 | .cons o t k r=>by simp only [Qf.ls,List.map_cons,List.sum_cons,Qf.sz,sz_ls r,Qy.sz]
def dis {α:Type} [DecidableEq α]:List α->List α->List α
 | _,[]=>[]
 | had,x::r=>if x ∈ had then dis had r else x::dis (x::had) r
theorem Zdr {α:Type} [DecidableEq α] (l:List α):∀ (had:List α)(y:α),y ∈ dis had l↔y ∈ l/\y ∉ had:=by
 induction l with
 | nil=>intro had y;simp [dis]
 | cons x r ih =>
  intro had y
  by_cases hx:x ∈ had
  ·simp only [dis,if_pos hx,ih,List.mem_cons]
   constructor
   ·exact fun h=>⟨.inr h.1,h.2⟩
   ·rintro⟨rfl|h1,h2⟩
    ·exact (h2 hx).elim
    ·exact⟨h1,h2⟩
  ·simp only [dis,if_neg hx,List.mem_cons,ih,not_or]
   constructor
   ·rintro (rfl|⟨h1,h2,h3⟩)
    ·exact⟨.inl rfl,hx⟩
    ·exact⟨.inr h1,h3⟩
   ·rintro⟨rfl|h1,h2⟩
    ·exact .inl rfl
    ·by_cases e:y=x
     ·exact .inl e
     ·exact .inr ⟨h1,e,h2⟩
theorem Zhd {α:Type} [DecidableEq α] (l:List α):∀ had:List α,(dis had l).Nodup:=by
 induction l with
 | nil=>intro had;simp [dis]
 | cons x r ih =>
  intro had
  by_cases hx:x ∈ had
  ·simp only [dis,if_pos hx];exact ih had
  ·simp only [dis,if_neg hx,List.nodup_cons]
   exact⟨fun h=>((Zdr r _ x).1 h).2 (by simp),ih _⟩
theorem ZjB {α:Type} [DecidableEq α] (l:List α):∀ (had:List α)(x:α),dis had (l++[x])=if x ∈ had\/x ∈ l then dis had l else dis had l++[x]:=by
 induction l with
 | nil=>intro had x;by_cases h:x ∈ had <;> simp [dis,h]
 | cons y r ih =>
  intro had x
  by_cases hy:y ∈ had
  ·simp only [List.cons_append,dis,if_pos hy,ih]
   by_cases h:x ∈ had\/x ∈ r
   ·rw [if_pos h,if_pos (by rcases h with h|h;exact .inl h;exact .inr (by simp [h]))]
   ·rw [if_neg h,if_neg (fun h2=>h (by
     rcases h2 with h2|h2
     ·exact .inl h2
     ·rcases List.mem_cons.1 h2 with rfl|h2
      ·exact .inl hy
      ·exact .inr h2))]
  ·simp only [List.cons_append,dis,if_neg hy,ih]
   by_cases h:x ∈ y::had\/x ∈ r
   ·rw [if_pos h,if_pos (by
     rcases h with h|h
     ·rcases List.mem_cons.1 h with rfl|h
      ·exact .inr (by simp)
      ·exact .inl h
     ·exact .inr (by simp [h]))]
   ·rw [if_neg h,if_neg (fun h2=>h (by
     rcases h2 with h2|h2
     ·exact .inl (by simp [h2])
     ·rcases List.mem_cons.1 h2 with rfl|h2
      ·exact .inl (by simp)
      ·exact .inr h2))]
    try rfl
theorem dis_le {α:Type} [DecidableEq α] (l:List α):∀ had:List α,(dis had l).length<=l.length:=by
 induction l with
 | nil=>intro had;simp [dis]
 | cons x r ih =>
  intro had
  by_cases hx:x ∈ had
  ·simp only [dis,if_pos hx,List.length_cons];have:=ih had;omega
  ·simp only [dis,if_neg hx,List.length_cons];have:=ih (x::had);omega
theorem Zhe {α:Type} [DecidableEq α] {l:List α}(h:l.Nodup):∀ had:List α,(∀ x ∈ l,x ∉ had)->dis had l=l:=by
 induction l with
 | nil=>intro _ _;rfl
 | cons x r ih =>
  intro had hh
  rw [List.nodup_cons] at h
  simp only [dis,if_neg (hh x (by simp))]
  rw [ih h.2 (x::had) (fun y hy hy2=>by
   rcases List.mem_cons.1 hy2 with rfl|hy2
   ·exact h.1 hy
   ·exact hh y (by simp [hy]) hy2)]
def Asc (l:List Tx):Prop:=l.Pairwise (fun a b=>a<b)
theorem Zl5 {l:List Tx}(h:Asc l):l.Nodup:=h.imp (fun hab e=>by subst e;exact List.lt_irrefl _ hab)
theorem Zit:∀ {l m:List Tx},Asc l->Asc m->(∀ x,x ∈ l↔x ∈ m)->l=m
 | [],[],_,_,_=>rfl
 | [],b::m,_,_,h=>by have:=(h b).2 (by simp);simp at this
 | a::l,[],_,_,h=>by have:=(h a).1 (by simp);simp at this
 | a::l,b::m,h1,h2,h=>by
  rw [Asc,List.pairwise_cons] at h1 h2
  have hab:a=b:=by
   rcases List.mem_cons.1 ((h a).1 (by simp)) with e|e
   ·exact e
   ·rcases List.mem_cons.1 ((h b).2 (by simp)) with e2|e2
    ·exact e2.symm
    ·exact absurd (h1.1 b e2) (fun hlt=>List.lt_irrefl _ (List.lt_trans hlt (h2.1 a e)))
  subst hab
  congr 1
  refine Zit h1.2 h2.2 (fun x=>?_)
  constructor
  ·intro hx
   rcases List.mem_cons.1 ((h x).1 (by simp [hx])) with e|e
   ·subst e;exact absurd (h1.1 x hx) (List.lt_irrefl _)
   ·exact e
  ·intro hx
   rcases List.mem_cons.1 ((h x).2 (by simp [hx])) with e|e
   ·subst e;exact absurd (h2.1 x hx) (List.lt_irrefl _)
   ·exact e
abbrev le8:Tx->Tx->Bool:=fun x y=>decide (x<=y)
theorem le8_tr (a b c:Tx)(h1:le8 a b=true)(h2:le8 b c=true):le8 a c=true:=by simp only [le8,decide_eq_true_eq] at *;exact List.le_trans h1 h2
theorem le8_to (a b:Tx):(le8 a b || le8 b a)=true:=by simp only [le8,Bool.or_eq_true,decide_eq_true_eq];exact List.le_total a b
def srt (l:List Tx):List Tx:=l.mergeSort le8
theorem mem_srt {l:List Tx}{x:Tx}:x ∈ srt l↔x ∈ l:=(List.mergeSort_perm l le8).mem_iff
theorem Zgc (l:List Tx):(srt l).length=l.length:=(List.mergeSort_perm l le8).length_eq
theorem srt_asc {l:List Tx}(h:l.Nodup):Asc (srt l):=by
 have h1:=List.pairwise_mergeSort (le:=le8) le8_tr le8_to l
 have h2:(srt l).Nodup:=(List.mergeSort_perm l le8).nodup_iff.2 h
 have h3:(srt l).Pairwise (fun a b=>le8 a b=true/\a≠b):=List.pairwise_and_iff.2 ⟨h1,h2⟩
 refine h3.imp (fun {a b} hab=>?_)
 have hle:a<=b:=by simpa [le8] using hab.1
 exact Classical.byContradiction (fun h=>hab.2 (List.le_antisymm hle (List.not_lt.1 h)))
def ups (l:List Tx):List Tx:=srt (dis [] l)
theorem mem_ups {l:List Tx}{x:Tx}:x ∈ ups l↔x ∈ l:=by unfold ups;rw [mem_srt,Zdr];simp
theorem Ziu (l:List Tx):Asc (ups l):=srt_asc (Zhd l [])
theorem Ziv (l:List Tx):(ups l).length<=l.length:=by unfold ups;rw [Zgc];exact dis_le l []
def Zbq (s:Tx):List Tx:=(List.range (s.length - 2)).map (fun i=>(s.drop i).take 3)
def ZaE (s:Tx):List Tx:=ups (Zbq s)
theorem Zca {s g:Tx}(h:g ∈ Zbq s):g.length=3:=by
 unfold Zbq at h
 obtain⟨i,hi,rfl⟩:=List.mem_map.1 h
 have:=List.mem_range.1 hi
 rw [List.length_take,List.length_drop]
 omega
theorem Zcb (s:Tx):(Zbq s).length=s.length - 2:=by simp [Zbq]
theorem Zcw {s g:Tx}(h:g ∈ ZaE s):g.length=3:=Zca (mem_ups.1 h)
theorem Zl6 {s g:Tx}:g ∈ Zbq s↔g.length=3/\∃ u v,s=u++g++v:=by
 constructor
 ·intro h
  refine⟨Zca h,?_⟩
  unfold Zbq at h
  obtain⟨i,hi,rfl⟩:=List.mem_map.1 h
  exact⟨s.take i,(s.drop i).drop 3,by rw [List.append_assoc,List.take_append_drop,List.take_append_drop]⟩
 ·rintro⟨h3,u,v,rfl⟩
  unfold Zbq
  refine List.mem_map.2 ⟨u.length,List.mem_range.2 (by simp;omega),?_⟩
  rw [List.append_assoc,List.drop_left,List.take_left' h3]
def Zbl (a b:List Tx):List Tx:=a.flatMap (fun x=>b.map (fun y=>x++y))
def bnd (l:List Tx):Option (List Tx):=if (dis [] l).length<=32/\(∀ t ∈ l,t.length<=32) then some (ups l) else none
def Za1:List Tx->Tx
 | []=>[]
 | [t]=>t
 | t::r=>t++32::Za1 r
def Zcx (o:Int)(t:Tx)(ks:List Tx):Tx :=
 if o=0 then [42] else if o=1 then [45] else if o=2 then 124::t++[124] else if o=3 then 40::Za1 ks++[41] else if o=4 then 91::Za1 ks++[93] else []
def Qf.tells:Qf->List Tx
 | .nil=>[]
 | .cons o t k r=>Zcx o t k.tells::r.tells
def Qy.tell (q:Qy):Tx:=Zcx q.op q.tx q.l.tells
theorem Zgd:∀ f:Qf,f.tells=f.ls.map Qy.tell
 | .nil=>rfl
 | .cons o t k r=>by simp [Qf.tells,Qf.ls,Qy.tell,Zgd r]
def allQ:Qy:=⟨0,[],.nil⟩
def Zb1 (g:Tx):Qy:=⟨2,g,.nil⟩
def Zej (op:Int):Int:=if op=4 then 1 else 0
def ZdF (op:Int):Int:=if op=4 then 0 else 1
def Zb0 (op:Int)(l:List Qy):List Qy:=l.flatMap (fun q=>if q.op=op then q.l.ls else [q])
def ZaL {α β:Type} [DecidableEq β] (f:α->β):List β->List α->List α
 | _,[]=>[]
 | had,x::r=>if f x ∈ had then ZaL f had r else x::ZaL f (f x::had) r
theorem Zfw {α β:Type} [DecidableEq β] (f:α->β)(l:List α):∀ (had:List β)(x:α),ZaL f had (l++[x])=if f x ∈ had\/f x ∈ l.map f then ZaL f had l else ZaL f had l++[x]:=by
 induction l with
 | nil=>intro had x;by_cases h:f x ∈ had <;> simp [ZaL,h]
 | cons y r ih =>
  intro had x
  by_cases hy:f y ∈ had
  ·simp only [List.cons_append,ZaL,if_pos hy,ih]
   by_cases h:f x ∈ had\/f x ∈ r.map f
   ·rw [if_pos h,if_pos (by rcases h with h|h;exact .inl h;exact .inr (by simp [h]))]
   ·rw [if_neg h,if_neg (fun h2=>h (by
     rcases h2 with h2|h2
     ·exact .inl h2
     ·rw [List.map_cons] at h2
      rcases List.mem_cons.1 h2 with e|h2
      ·exact .inl (e ▸ hy)
      ·exact .inr h2))]
  ·simp only [List.cons_append,ZaL,if_neg hy,ih]
   by_cases h:f x ∈ f y::had\/f x ∈ r.map f
   ·rw [if_pos h,if_pos (by
     rcases h with h|h
     ·rcases List.mem_cons.1 h with e|h
      ·exact .inr (by simp [e])
      ·exact .inl h
     ·exact .inr (by rw [List.map_cons];exact List.mem_cons_of_mem _ h))]
   ·rw [if_neg h,if_neg (fun h2=>h (by
     rcases h2 with h2|h2
     ·exact .inl (by simp [h2])
     ·rw [List.map_cons] at h2
      rcases List.mem_cons.1 h2 with e|h2
      ·exact .inl (by simp [e])
      ·exact .inr h2))]
    try rfl
theorem Zcc {α β:Type} [DecidableEq β] (f:α->β)(l:List α):∀ (had:List β){x:α},x ∈ ZaL f had l->x ∈ l:=by
 induction l with
 | nil=>intro had x h;exact h
 | cons y r ih =>
  intro had x h
  by_cases hy:f y ∈ had
  ·simp only [ZaL,if_pos hy] at h;exact List.mem_cons_of_mem _ (ih _ h)
  ·simp only [ZaL,if_neg hy] at h
   rcases List.mem_cons.1 h with rfl|h
   ·simp
   ·exact List.mem_cons_of_mem _ (ih _ h)
theorem Zkv {α β:Type} [DecidableEq β] (f:α->β)(l:List α):∀ (had:List β)(y:β),y ∈ (ZaL f had l).map f↔y ∈ l.map f/\y ∉ had:=by
 induction l with
 | nil=>intro had y;simp [ZaL]
 | cons x r ih =>
  intro had y
  by_cases hx:f x ∈ had
  ·simp only [ZaL,if_pos hx,ih,List.map_cons,List.mem_cons]
   constructor
   ·exact fun h=>⟨.inr h.1,h.2⟩
   ·rintro⟨rfl|h1,h2⟩
    ·exact (h2 hx).elim
    ·exact⟨h1,h2⟩
  ·simp only [ZaL,if_neg hx,List.map_cons,List.mem_cons,ih,not_or]
   constructor
   ·rintro (rfl|⟨h1,h2,h3⟩)
    ·exact⟨.inl rfl,hx⟩
    ·exact⟨.inr h1,h3⟩
   ·rintro⟨rfl|h1,h2⟩
    ·exact .inl rfl
    ·by_cases e:y=f x
     ·exact .inl e
     ·exact .inr ⟨h1,e,h2⟩
theorem ZjC {α β:Type} [DecidableEq β] (f:α->β)(l:List α):∀ had:List β,(ZaL f had l).length<=l.length:=by
 induction l with
 | nil=>intro had;simp [ZaL]
 | cons x r ih =>
  intro had
  by_cases hx:f x ∈ had
  ·simp only [ZaL,if_pos hx,List.length_cons];have:=ih had;omega
  ·simp only [ZaL,if_neg hx,List.length_cons];have:=ih (f x::had);omega
def Zfg (goes:Int)(op:Int):List Qy->Qy
 | []=>⟨goes,[],.nil⟩
 | [q]=>q
 | l=>⟨op,[],fq l⟩
def tg (op:Int)(l:List Qy):Qy :=
 match (ZaL Qy.tell [] (Zb0 op l)).find? (fun q=>q.op=ZdF op) with
 | some q=>q
 | none=>Zfg (Zej op) op ((ZaL Qy.tell [] (Zb0 op l)).filter (fun q=>q.op≠Zej op))
def Zba (ts:List Tx):Qy:=tg 4 (ts.map (fun s=>tg 3 ((ZaE s).map Zb1)))
inductive Pt where
 | told:List Tx->Pt
 | ask:Qy->Pt
def Pt.q:Pt->Qy
 | .told _=>allQ
 | .ask q=>q
def Pt.asked:Pt->Qy
 | .told ts=>Zba ts
 | .ask q=>q
def Zbr:List Tx->List Pt->List Tx × Nat
 | ts,[]=>(ts,0)
 | ts,.ask _::_=>(ts,0)
 | ts,.told p::r=>match bnd (Zbl ts p) with
  | none=>(ts,0)
  | some m=>((Zbr m r).1,(Zbr m r).2+1)
def Zaw (l:List Pt):List Tx × Nat:=Zbr [[]] l
def ZaT:Nat->List Pt->List Qy
 | 0,_=>[]
 | _+1,[]=>[]
 | f+1,p::r=>if (Zaw (p::r)).2=0 then p.q::ZaT f r else Zba (Zaw (p::r)).1::ZaT f ((p::r).drop (Zaw (p::r)).2)
def Zdf (l:List Pt):Pt:=if (Zaw l).2=l.length then .told (Zaw l).1 else .ask (tg 3 (ZaT l.length l))
def Zbb:List Pt->Option (List Tx)
 | []=>some []
 | .ask _::_=>none
 | .told p::r=>(Zbb r).map (fun ts=>p++ts)
def Zdg (l:List Pt):Pt:=match (Zbb l).bind bnd with
 | some ts=>.told ts
 | none=>.ask (tg 4 (l.map Pt.asked))
def ZaV (p:Pt)(mn mx:Int):Pt :=
 if mn=mx/\(Zaw (List.replicate mn.toNat p)).2=mn.toNat then .told (Zaw (List.replicate mn.toNat p)).1
 else if mn=0 then .ask allQ else .ask p.asked
end G
namespace G
open Go.RowKit
def okN (o:Int)(t:Tx)(k:Qf):Prop:=((o=0\/o=1)/\t=[]/\k=.nil)\/(o=2/\t.length=3/\k=.nil)\/((o=3\/o=4)/\t=[])
def Qf.ok:Qf->Prop
 | .nil=>True
 | .cons o t k r=>okN o t k/\k.ok/\r.ok
def Qy.ok (q:Qy):Prop:=okN q.op q.tx q.l/\q.l.ok
theorem ok_ls:∀ {f:Qf},f.ok->∀ q ∈ f.ls,q.ok
 | .nil,_,q,h=>by simp [Qf.ls] at h
 | .cons o t k r,h,q,hq=>by
  rcases List.mem_cons.1 hq with rfl|hq
  ·exact⟨h.1,h.2.1⟩
  ·exact ok_ls h.2.2 q hq
theorem ok_fq:∀ {l:List Qy},(∀ q ∈ l,q.ok)->(fq l).ok
 | [],_=>trivial
 | q::r,h=>⟨(h q (by simp)).1,(h q (by simp)).2,ok_fq (fun x hx=>h x (by simp [hx]))⟩
def Zfh:List Tx->Tx
 | []=>[]
 | l=>32::Za1 l
theorem Zby (t:Tx)(r:List Tx):Za1 (t::r)=t++Zfh r:=by
 cases r with
 | nil=>simp [Za1,Zfh]
 | cons a b=>rfl
theorem Zc5 (o:Int)(t:Tx)(k r:Qf):(Qf.cons o t k r).tells=Zcx o t k.tells::r.tells:=rfl
def hd5 (c:UInt8):Prop:=c=42\/c=45\/c=124\/c=40\/c=91
theorem Zl7 {o:Int}{t:Tx}{k:Qf}(h:okN o t k)(ks:List Tx):∃ c r,Zcx o t ks=c::r/\hd5 c:=by
 unfold Zcx
 rcases h with⟨rfl|rfl,_⟩|⟨rfl,_⟩|⟨rfl|rfl,_⟩ <;> simp [hd5]
theorem hd5_no {c:UInt8}(h:hd5 c):c≠41/\c≠93/\c≠32:=by
 rcases h with rfl|rfl|rfl|rfl|rfl <;> decide
theorem Zl8:∀ (f g:Qf),f.ok->g.ok->∀ (c c':UInt8)(u v:Tx),(c=41\/c=93)->(c'=41\/c'=93)->Za1 f.tells++c::u=Za1 g.tells++c'::v->f=g/\c=c'/\u=v:=by
 intro f
 induction f with
 | nil =>
  intro g _ hg c c' u v hc hc' e
  cases g with
  | nil=>simp [Qf.tells,Za1] at e;exact⟨rfl,e.1,e.2⟩
  | cons o t k r =>
   exfalso
   rw [Zc5,Zby] at e
   obtain⟨d,w,hd,h5⟩:=Zl7 hg.1 k.tells
   rw [hd] at e
   simp [Qf.tells,Za1] at e
   have:=hd5_no h5
   rcases hc with rfl|rfl
   ·exact this.1 e.1.symm
   ·exact this.2.1 e.1.symm
 | cons o t k r ihk ihr =>
  intro g hf hg c c' u v hc hc' e
  cases g with
  | nil =>
   exfalso
   rw [Zc5,Zby] at e
   obtain⟨d,w,hd,h5⟩:=Zl7 hf.1 k.tells
   rw [hd] at e
   simp [Qf.tells,Za1] at e
   have:=hd5_no h5
   rcases hc' with rfl|rfl
   ·exact this.1 e.1
   ·exact this.2.1 e.1
  | cons o' t' k' r' =>
   rw [Zc5,Zc5,Zby,Zby,List.append_assoc,List.append_assoc] at e
   obtain⟨h1,h2,h3⟩:=hf
   obtain⟨g1,g2,g3⟩:=hg
   -- what follows
   have rest:∀ {X:Tx} {Y:Tx},X=Zfh r.tells++c::u->Y=Zfh r'.tells++c'::v->X=Y->r=r'/\c=c'/\u=v:=by
    intro X Y hX hY hXY
    rw [hX,hY] at hXY
    cases r with
    | nil =>
     cases r' with
     | nil=>simp [Qf.tells,Zfh] at hXY;exact⟨rfl,hXY.1,hXY.2⟩
     | cons _ _ _ _ =>
      exfalso
      simp [Qf.tells,Zfh] at hXY
      rcases hc with rfl|rfl
      ·exact absurd hXY.1 (by decide)
      ·exact absurd hXY.1 (by decide)
    | cons a1 a2 a3 a4 =>
     cases r' with
     | nil =>
      exfalso
      simp [Qf.tells,Zfh] at hXY
      rcases hc' with rfl|rfl
      ·exact absurd hXY.1 (by decide)
      ·exact absurd hXY.1 (by decide)
     | cons b1 b2 b3 b4 =>
      have e1:∀ (x y z w:_),Zfh (Qf.cons x y z w).tells=32::Za1 (Qf.cons x y z w).tells:=fun _ _ _ _=>rfl
      rw [e1,e1] at hXY
      simp only [List.cons_append,List.cons.injEq,true_and] at hXY
      exact ihr _ h3 g3 c c' u v hc hc' hXY
   have two:∀ {x y X Y:Tx},x.length=3->y.length=3->x++124::X=y++124::Y->x=y/\X=Y:=by
    intro x y X Y hx hy hxy
    have:=List.append_inj hxy (by omega)
    exact⟨this.1,by simpa using this.2⟩
   rcases h1 with⟨rfl|rfl,rfl,rfl⟩|⟨rfl,h1,rfl⟩|⟨rfl|rfl,rfl⟩ <;> rcases g1 with⟨rfl|rfl,rfl,rfl⟩|⟨rfl,g1,rfl⟩|⟨rfl|rfl,rfl⟩ <;> simp [Zcx] at e
   ·obtain⟨a,b,d⟩:=rest rfl rfl e;exact⟨by rw [a],b,d⟩
   ·obtain⟨a,b,d⟩:=rest rfl rfl e;exact⟨by rw [a],b,d⟩
   ·obtain⟨q1,q2⟩:=two h1 g1 e
    obtain⟨a,b,d⟩:=rest rfl rfl q2
    exact⟨by rw [a,q1],b,d⟩
   ·obtain⟨a,_,b⟩:=ihk k' h2 g2 41 41 _ _ (.inl rfl) (.inl rfl) e
    obtain⟨a2,b2,d2⟩:=rest rfl rfl b
    exact⟨by rw [a,a2],b2,d2⟩
   ·obtain⟨a,_,b⟩:=ihk k' h2 g2 93 93 _ _ (.inr rfl) (.inr rfl) e
    obtain⟨a2,b2,d2⟩:=rest rfl rfl b
    exact⟨by rw [a,a2],b2,d2⟩
theorem tell_inj {p q:Qy}(hp:p.ok)(hq:q.ok)(h:p.tell=q.tell):p=q:=by
 have h2:=Zl8 (.cons p.op p.tx p.l .nil) (.cons q.op q.tx q.l .nil) ⟨hp.1,hp.2,trivial⟩ ⟨hq.1,hq.2,trivial⟩ 41 41 [] [] (.inl rfl) (.inl rfl) (by
  show Za1 [Zcx p.op p.tx p.l.tells]++_=Za1 [Zcx q.op q.tx q.l.tells]++_
  exact congrArg (fun x=>x++[41]) h)
 have h3:=h2.1
 cases p;cases q
 simp only [Qf.cons.injEq] at h3
 simp [h3]
def Zdv (o:Int)(t:Tx)(ks:List Bool)(had:List Tx):Bool:=if o=0 then true else if o=2 then decide (t ∈ had) else if o=3 then ks.all id else if o=4 then ks.any id else false
def Qf.fs (had:List Tx):Qf->List Bool
 | .nil=>[]
 | .cons o t k r=>Zdv o t (k.fs had) had::r.fs had
def Qy.fit (q:Qy)(had:List Tx):Bool:=Zdv q.op q.tx (q.l.fs had) had
theorem Zhf (had:List Tx):∀ f:Qf,f.fs had=f.ls.map (fun q=>q.fit had)
 | .nil=>rfl
 | .cons o t k r=>by simp [Qf.fs,Qf.ls,Qy.fit,Zhf had r]
theorem fs_fq (had:List Tx)(l:List Qy):(fq l).fs had=l.map (fun q=>q.fit had):=by rw [Zhf,Zgb]
theorem Zhg {l:List Qy}(hok:∀ q ∈ l,q.ok)(p:Qy->Bool):(ZaL Qy.tell [] l).all p=l.all p:=by
 rw [Bool.eq_iff_iff]
 simp only [List.all_eq_true]
 constructor
 ·intro h q hq
  have h1:q.tell ∈ (ZaL Qy.tell [] l).map Qy.tell:=(Zkv Qy.tell l [] _).2 ⟨List.mem_map.2 ⟨q,hq,rfl⟩,by simp⟩
  obtain⟨q',h2,h3⟩:=List.mem_map.1 h1
  have:=tell_inj (hok q' (Zcc _ _ _ h2)) (hok q hq) h3
  rw [<- this];exact h q' h2
 ·exact fun h q hq=>h q (Zcc _ _ _ hq)
theorem Zl9 {l:List Qy}(hok:∀ q ∈ l,q.ok)(p:Qy->Bool):(ZaL Qy.tell [] l).any p=l.any p:=by
 have:=Zhg hok (fun q=>!p q)
 rw [List.all_eq_not_any_not,List.all_eq_not_any_not] at this
 simpa using this
theorem Zge {op:Int}{l:List Qy}(h:∀ q ∈ l,q.ok):∀ q ∈ Zb0 op l,q.ok:=fun q hq=>by
 unfold Zb0 at hq
 obtain⟨x,hx,hq⟩:=List.mem_flatMap.1 hq
 split at hq
 ·exact ok_ls (h x hx).2 q hq
 ·rw [List.mem_singleton.1 hq];exact h x hx
theorem leftQ_ok {goes op:Int}(hop:op=3\/op=4)(hg:goes=0\/goes=1){l:List Qy}(h:∀ q ∈ l,q.ok):(Zfg goes op l).ok:=by
 match l,h with
 | [],_=>exact⟨.inl ⟨hg,rfl,rfl⟩,trivial⟩
 | [q],h=>exact h q (by simp)
 | a::b::r,h=>exact⟨.inr (.inr ⟨hop,rfl⟩),ok_fq h⟩
theorem Zkw {op:Int}(hop:op=3\/op=4){l:List Qy}(h:∀ q ∈ l,q.ok):(tg op l).ok:=by
 unfold tg
 have h1:∀ q ∈ ZaL Qy.tell [] (Zb0 op l),q.ok:=fun q hq=>Zge h q (Zcc _ _ _ hq)
 split
 ·rename_i q hq;exact h1 q (List.mem_of_find?_eq_some hq)
 ·exact leftQ_ok hop (by unfold Zej;split <;> simp) (fun q hq=>h1 q (List.mem_filter.1 hq).1)
theorem open_all (had:List Tx)(l:List Qy):(Zb0 3 l).all (fun q=>q.fit had)=l.all (fun q=>q.fit had):=by
 unfold Zb0
 induction l with
 | nil=>rfl
 | cons q r ih =>
  rw [List.flatMap_cons,List.all_append,ih,List.all_cons]
  congr 1
  split
  ·rename_i h
   have e:q.fit had=Zdv q.op q.tx (q.l.fs had) had:=rfl
   rw [e,h,Zhf]
   simp [Zdv]
  ·simp
theorem open_any (had:List Tx)(l:List Qy):(Zb0 4 l).any (fun q=>q.fit had)=l.any (fun q=>q.fit had):=by
 unfold Zb0
 induction l with
 | nil=>rfl
 | cons q r ih =>
  rw [List.flatMap_cons,List.any_append,ih,List.any_cons]
  congr 1
  split
  ·rename_i h
   have e:q.fit had=Zdv q.op q.tx (q.l.fs had) had:=rfl
   rw [e,h,Zhf]
   simp [Zdv]
  ·simp
theorem Zkx (had:List Tx)(l:List Qy):(Zfg 0 3 l).fit had=l.all (fun q=>q.fit had):=by
 match l with
 | []=>rfl
 | [q]=>simp [Zfg]
 | a::b::r =>
  show Zdv 3 [] ((fq (a::b::r)).fs had) had=_
  rw [fs_fq]
  simp [Zdv]
theorem Zky (had:List Tx)(l:List Qy):(Zfg 1 4 l).fit had=l.any (fun q=>q.fit had):=by
 match l with
 | []=>rfl
 | [q]=>simp [Zfg]
 | a::b::r =>
  show Zdv 4 [] ((fq (a::b::r)).fs had) had=_
  rw [fs_fq]
  simp [Zdv]
theorem Ziw {q:Qy}(h:q.op=0)(had:List Tx):q.fit had=true:=by unfold Qy.fit Zdv;rw [if_pos h]
theorem Zix {q:Qy}(h:q.op=1)(had:List Tx):q.fit had=false:=by unfold Qy.fit Zdv;rw [h];simp
theorem Zma {l:List Qy}(h:∀ q ∈ l,q.ok)(had:List Tx):(tg 3 l).fit had=l.all (fun q=>q.fit had):=by
 rw [<- open_all,<- Zhg (Zge h)]
 unfold tg
 split
 ·rename_i q hq
  have h1:q.op=1:=by simpa [ZdF] using List.find?_some hq
  have h2:=List.mem_of_find?_eq_some hq
  rw [Zix h1]
  symm
  rw [Bool.eq_false_iff]
  intro h3
  have:=List.all_eq_true.1 h3 q h2
  rw [Zix h1] at this
  cases this
 ·have:Zej 3=0:=rfl
  rw [this,Zkx]
  rw [Bool.eq_iff_iff]
  simp only [List.all_eq_true,List.mem_filter]
  constructor
  ·intro h q hq
   by_cases h0:q.op=0
   ·exact Ziw h0 _
   ·exact h q ⟨hq,by simpa using h0⟩
  ·exact fun h q hq=>h q hq.1
theorem Zmb {l:List Qy}(h:∀ q ∈ l,q.ok)(had:List Tx):(tg 4 l).fit had=l.any (fun q=>q.fit had):=by
 rw [<- open_any,<- Zl9 (Zge h)]
 unfold tg
 split
 ·rename_i q hq
  have h1:q.op=0:=by simpa [ZdF] using List.find?_some hq
  have h2:=List.mem_of_find?_eq_some hq
  rw [Ziw h1]
  exact (List.any_eq_true.2 ⟨q,h2,Ziw h1 _⟩).symm
 ·have:Zej 4=1:=rfl
  rw [this,Zky]
  rw [Bool.eq_iff_iff]
  simp only [List.any_eq_true,List.mem_filter]
  constructor
  ·rintro⟨q,hq,h⟩;exact⟨q,hq.1,h⟩
  ·rintro⟨q,hq,h⟩
   refine⟨q,⟨hq,?_⟩,h⟩
   simp only [decide_eq_true_eq,ne_eq]
   intro h1
   rw [Zix h1] at h
   cases h
theorem fs_mono {had had':List Tx}(h:∀ x ∈ had,x ∈ had'):∀ f:Qf,∀ i:Nat,(f.fs had)[i]?=some true->(f.fs had')[i]?=some true:=by
 intro f
 induction f with
 | nil=>intro i hi;simp [Qf.fs] at hi
 | cons o t k r ihk ihr =>
  intro i hi
  cases i with
  | succ i=>simp only [Qf.fs,List.getElem?_cons_succ] at hi ⊢;exact ihr i hi
  | zero =>
   simp only [Qf.fs,List.getElem?_cons_zero,Option.some.injEq] at hi ⊢
   have hlen:∀ g:Qf,(g.fs had').length=(g.fs had).length:=fun g=>by rw [Zhf,Zhf];simp
   unfold Zdv at hi ⊢
   split at hi
   ·rw [if_pos (by assumption)]
   ·rw [if_neg (by assumption)]
    split at hi
    ·rw [if_pos (by assumption)]
     simp only [decide_eq_true_eq] at hi ⊢
     exact h _ hi
    ·rw [if_neg (by assumption)]
     split at hi
     ·rw [if_pos (by assumption)]
      simp only [List.all_eq_true,id_eq] at hi ⊢
      intro x hx
      obtain⟨j,hj,rfl⟩:=List.getElem_of_mem hx
      have h1:=ihk j (by rw [List.getElem?_eq_getElem (by rw [<- hlen];exact hj),hi _ (List.getElem_mem _)])
      rw [List.getElem?_eq_getElem hj] at h1
      exact Option.some.inj h1
     ·rw [if_neg (by assumption)]
      split at hi
      ·rw [if_pos (by assumption)]
       simp only [List.any_eq_true,id_eq] at hi ⊢
       obtain⟨x,hx,hx2⟩:=hi
       obtain⟨j,hj,rfl⟩:=List.getElem_of_mem hx
       have h1:=ihk j (by rw [List.getElem?_eq_getElem hj,hx2])
       exact⟨true,List.mem_of_getElem? h1,rfl⟩
      ·cases hi
theorem Zgf {had had':List Tx}(h:∀ x ∈ had,x ∈ had'){q:Qy}(hq:q.fit had=true):q.fit had'=true:=by
 have:=fs_mono h (.cons q.op q.tx q.l .nil) 0 (by show some (Zdv q.op q.tx (q.l.fs had) had)=some true;exact congrArg some hq)
 exact Option.some.inj this
theorem Zmc (u s v:Tx):∀ x ∈ ZaE s,x ∈ ZaE (u++s++v):=fun x hx=>by
 unfold ZaE at hx ⊢
 rw [mem_ups,Zl6] at hx ⊢
 obtain⟨h3,a,b,e⟩:=hx
 exact⟨h3,u++a,b++v,by rw [e];simp⟩
theorem Zfx (ts:List Tx):(Zba ts).ok:=by
 unfold Zba
 refine Zkw (.inr rfl) (fun q hq=>?_)
 obtain⟨s,_,rfl⟩:=List.mem_map.1 hq
 refine Zkw (.inl rfl) (fun q hq=>?_)
 obtain⟨g,hg,rfl⟩:=List.mem_map.1 hq
 exact⟨.inr (.inl ⟨rfl,Zcw hg,rfl⟩),trivial⟩
theorem Zgg {g:Tx}(h:g.length=3):(Zb1 g).ok:=⟨.inr (.inl ⟨rfl,h,rfl⟩),trivial⟩
theorem all_ok:allQ.ok:=⟨.inl ⟨.inl rfl,rfl,rfl⟩,trivial⟩
theorem Ziy (ts:List Tx)(had:List Tx):(Zba ts).fit had=ts.any (fun s=>(ZaE s).all (fun g=>decide (g ∈ had))):=by
 unfold Zba
 have h3:∀ s:Tx,∀ q ∈ (ZaE s).map Zb1,q.ok:=fun s q hq=>by
  obtain⟨g,hg,rfl⟩:=List.mem_map.1 hq
  exact Zgg (Zcw hg)
 rw [Zmb (fun q hq=>by obtain⟨s,_,rfl⟩:=List.mem_map.1 hq;exact Zkw (.inl rfl) (h3 s))]
 rw [List.any_map]
 congr 1
 funext s
 show (tg 3 ((ZaE s).map Zb1)).fit had=_
 rw [Zma (h3 s),List.all_map]
 rfl
end G
namespace G
open Go.RowKit
abbrev Mg:=Tx->Prop
def PtS (p:Pt)(M:Mg):Prop:=match p with
 | .told ts=>∀ s,M s->s ∈ ts
 | .ask q=>q.ok/\∀ s,M s->q.fit (ZaE s)=true
def Ziz:List Mg->Mg
 | []=>fun s=>s=[]
 | M::r=>fun s=>∃ u v,s=u++v/\M u/\Ziz r v
def powS (M:Mg):Nat->Mg
 | 0=>fun s=>s=[]
 | n+1=>fun s=>∃ u v,s=u++v/\M u/\powS M n v
theorem powS_cat (M:Mg)(n:Nat):powS M n=Ziz (List.replicate n M):=by
 induction n with
 | zero=>rfl
 | succ n ih=>rw [List.replicate_succ];unfold powS Ziz;rw [ih]
theorem PtS.asked_ok {p:Pt}{M:Mg}(h:PtS p M):p.asked.ok:=by
 cases p with
 | told ts=>exact Zfx ts
 | ask q=>exact h.1
theorem PtS.asked {p:Pt}{M:Mg}(h:PtS p M){s:Tx}(hs:M s):p.asked.fit (ZaE s)=true:=by
 cases p with
 | told ts =>
  show (Zba ts).fit (ZaE s)=true
  rw [Ziy,List.any_eq_true]
  exact⟨s,h s hs,List.all_eq_true.2 (fun g hg=>by simpa using hg)⟩
 | ask q=>exact h.2 s hs
theorem Zhh {q:Qy}{s:Tx}(h:q.fit (ZaE s)=true)(u v:Tx):q.fit (ZaE (u++s++v))=true:=Zgf (Zmc u s v) h
theorem Zmd {a b:List Tx}{x y:Tx}(hx:x ∈ a)(hy:y ∈ b):x++y ∈ Zbl a b:=List.mem_flatMap.2 ⟨x,hx,List.mem_map.2 ⟨y,hy,rfl⟩⟩
theorem Zme {l m:List Tx}(h:bnd l=some m){x:Tx}:x ∈ m↔x ∈ l:=by
 unfold bnd at h
 split at h
 ·rw [<- Option.some.inj h];exact mem_ups
 ·cases h
inductive PtL:List Pt->List Mg->Prop
 | nil:PtL [] []
 | cons {p:Pt} {M:Mg} {l:List Pt} {Ms:List Mg}:PtS p M->PtL l Ms->PtL (p::l) (M::Ms)
theorem PtL.length {l:List Pt}{Ms:List Mg}(h:PtL l Ms):l.length=Ms.length:=by
 induction h with
 | nil=>rfl
 | cons _ _ ih=>simp [ih]
theorem PtL.drop {l:List Pt}{Ms:List Mg}(h:PtL l Ms)(n:Nat):PtL (l.drop n) (Ms.drop n):=by
 induction n generalizing l Ms with
 | zero=>exact h
 | succ n ih=>cases h with
  | nil=>exact .nil
  | cons _ h=>exact ih h
theorem ZiA {l:List Pt}{Ms:List Mg}(h:PtL l Ms):∀ (ts:List Tx)(u v:Tx),u ∈ ts->Ziz (Ms.take (Zbr ts l).2) v->u++v ∈ (Zbr ts l).1:=by
 induction h with
 | nil=>intro ts u v hu hv;simp only [Zbr,List.take_zero,Ziz] at hv ⊢;rw [hv,List.append_nil];exact hu
 | @cons p M l Ms hp hl ih =>
  intro ts u v hu hv
  cases p with
  | ask q=>simp only [Zbr,List.take_zero,Ziz] at hv ⊢;rw [hv,List.append_nil];exact hu
  | told pt =>
   cases hb:bnd (Zbl ts pt) with
   | none=>simp only [Zbr,hb,List.take_zero,Ziz] at hv ⊢;rw [hv,List.append_nil];exact hu
   | some m =>
    simp only [Zbr,hb,List.take_succ_cons,Ziz] at hv ⊢
    obtain⟨a,b,rfl,ha,hb2⟩:=hv
    rw [<- List.append_assoc]
    exact ih m (u++a) b ((Zme hb).2 (Zmd hu (hp a ha))) hb2
theorem Zcy {l:List Pt}{Ms:List Mg}(h:PtL l Ms){v:Tx}(hv:Ziz (Ms.take (Zaw l).2) v):v ∈ (Zaw l).1:=by
 have:=ZiA h [[]] [] v (by simp) hv
 rw [List.nil_append] at this
 exact this
theorem longG_le (l:List Pt):∀ ts,(Zbr ts l).2<=l.length:=by
 induction l with
 | nil=>intro ts;simp [Zbr]
 | cons p r ih =>
  intro ts
  cases p with
  | ask q=>simp [Zbr]
  | told pt =>
   cases hb:bnd (Zbl ts pt) with
   | none=>simp [Zbr,hb]
   | some m=>simp only [Zbr,hb,List.length_cons];have:=ih m;omega
theorem Zfy (l:List Pt):(Zaw l).2<=l.length:=longG_le l _
theorem ZjD (A B:List Mg)(s:Tx):Ziz (A++B) s↔∃ u v,s=u++v/\Ziz A u/\Ziz B v:=by
 induction A generalizing s with
 | nil=>exact⟨fun h=>⟨[],s,rfl,rfl,h⟩,by rintro⟨u,v,rfl,hu,hv⟩;have:u=[]:=hu;subst this;exact hv⟩
 | cons M A ih =>
  constructor
  ·rintro⟨u,v,rfl,hu,hv⟩
   obtain⟨a,b,rfl,ha,hb⟩:=(ih v).1 hv
   exact⟨u++a,b,by simp,⟨u,a,rfl,hu,ha⟩,hb⟩
  ·rintro⟨_,b,rfl,⟨u,a,rfl,hu,ha⟩,hb⟩
   exact⟨u,a++b,by simp,hu,(ih _).2 ⟨a,b,rfl,ha,hb⟩⟩
theorem zero_ask {p:Pt}{r:List Pt}{M:Mg}(hp:PtS p M)(hb:∀ ts,p=.told ts->bnd (Zbl [[]] ts)≠none)(h:(Zaw (p::r)).2=0):∃ q,p=.ask q:=by
 cases p with
 | ask q=>exact⟨q,rfl⟩
 | told ts =>
  exfalso
  have:=hb ts rfl
  unfold Zaw at h
  cases hb2:bnd (Zbl [[]] ts) with
  | none=>exact this hb2
  | some m=>simp [Zbr,hb2] at h
def Bd (ts:List Tx):Prop:=ts.length<=32/\(∀ t ∈ ts,t.length<=32)/\Asc ts
theorem ZjE {l m:List Tx}(h:bnd l=some m):Bd m:=by
 unfold bnd at h
 split at h
 ·rename_i hh
  rw [<- Option.some.inj h]
  exact⟨by unfold ups;rw [Zgc];exact hh.1,fun t ht=>hh.2 t (mem_ups.1 ht),Ziu l⟩
 ·cases h
theorem Zmf (ts:List Tx):Zbl [[]] ts=ts:=by simp [Zbl]
theorem Zfi {α:Type} [DecidableEq α] {l:List α}(h:l.Nodup):dis [] l=l:=Zhe h [] (fun x _ hx=>by simp at hx)
theorem Zmg {ts:List Tx}(h:Bd ts):bnd ts=some ts:=by
 unfold bnd
 rw [Zfi (Zl5 h.2.2),if_pos ⟨h.1,h.2.1⟩]
 congr 1
 exact Zit (Ziu _) h.2.2 (fun x=>mem_ups)
def PtB (p:Pt):Prop:=∀ ts,p=.told ts->Bd ts
theorem PtB.no {p:Pt}(h:PtB p):∀ ts,p=.told ts->bnd (Zbl [[]] ts)≠none:=fun ts e=>by rw [Zmf,Zmg (h ts e)];simp
theorem longG_bd {l:List Pt}:∀ {ts:List Tx},Bd ts->Bd (Zbr ts l).1:=by
 induction l with
 | nil=>intro ts h;exact h
 | cons p r ih =>
  intro ts h
  cases p with
  | ask q=>exact h
  | told pt =>
   cases hb:bnd (Zbl ts pt) with
   | none=>simp only [Zbr,hb];exact h
   | some m=>simp only [Zbr,hb];exact ih (ZjE hb)
theorem Zmh:Bd [[]]:=⟨by simp,by simp,by simp [Asc]⟩
theorem Zb4 (l:List Pt):Bd (Zaw l).1:=longG_bd Zmh
theorem Zee (f:Nat):∀ {l:List Pt}{Ms:List Mg},PtL l Ms->(∀ p ∈ l,PtB p)->∀ q ∈ ZaT f l,q.ok/\∀ s,Ziz Ms s->q.fit (ZaE s)=true:=by
 induction f with
 | zero=>intro l Ms _ _ q hq;simp [ZaT] at hq
 | succ f ih =>
  intro l Ms h hB q hq
  cases h with
  | nil=>simp [ZaT] at hq
  | @cons p M r Ms hp hl =>
   unfold ZaT at hq
   split at hq
   ·rename_i h0
    obtain⟨q',rfl⟩:=zero_ask hp (hB p (by simp)).no h0
    rcases List.mem_cons.1 hq with rfl|hq
    ·refine⟨hp.1,fun s hs=>?_⟩
     obtain⟨u,v,rfl,hu,_⟩:=hs
     exact Zhh (hp.2 u hu) [] v
    ·obtain⟨h1,h2⟩:=ih hl (fun p hp=>hB p (by simp [hp])) q hq
     refine⟨h1,fun s hs=>?_⟩
     obtain⟨u,v,rfl,_,hv⟩:=hs
     have:=Zhh (h2 v hv) u []
     simpa using this
   ·rename_i h0
    have hL:=PtL.cons hp hl
    rcases List.mem_cons.1 hq with rfl|hq
    ·refine⟨Zfx _,fun s hs=>?_⟩
     rw [<- List.take_append_drop (Zaw (p::r)).2 (M::Ms),ZjD] at hs
     obtain⟨u,v,rfl,hu,_⟩:=hs
     have h1:=Zcy hL hu
     have h2:PtS (.told (Zaw (p::r)).1) (fun s=>s=u):=fun s hs=>by rw [hs];exact h1
     exact Zhh (PtS.asked h2 rfl) [] v
    ·obtain⟨h1,h2⟩:=ih (hL.drop (Zaw (p::r)).2) (fun p hp=>hB p (List.mem_of_mem_drop hp)) q hq
     refine⟨h1,fun s hs=>?_⟩
     rw [<- List.take_append_drop (Zaw (p::r)).2 (M::Ms),ZjD] at hs
     obtain⟨u,v,rfl,_,hv⟩:=hs
     have:=Zhh (h2 v hv) u []
     simpa using this
theorem ZeN {l:List Pt}{Ms:List Mg}(h:PtL l Ms)(hB:∀ p ∈ l,PtB p):PtS (Zdf l) (Ziz Ms):=by
 unfold Zdf
 split
 ·rename_i hn
  intro s hs
  exact Zcy h (by rw [hn,h.length,List.take_length];exact hs)
 ·have hp:=Zee l.length h hB
  refine⟨Zkw (.inl rfl) (fun q hq=>(hp q hq).1),fun s hs=>?_⟩
  rw [Zma (fun q hq=>(hp q hq).1),List.all_eq_true]
  exact fun q hq=>(hp q hq).2 s hs
theorem allOf_bd (l:List Pt):PtB (Zdf l):=fun ts e=>by
 unfold Zdf at e
 split at e
 ·cases e;exact Zb4 l
 ·cases e
theorem Zhi {l:List Pt}{Ms:List Mg}(h:PtL l Ms):∀ {ts:List Tx},Zbb l=some ts->∀ M ∈ Ms,∀ s,M s->s ∈ ts:=by
 induction h with
 | nil=>intro ts _ M hM;simp at hM
 | @cons p M l Ms hp hl ih =>
  intro ts e M' hM s hs
  cases p with
  | ask q=>simp [Zbb] at e
  | told pt =>
   simp only [Zbb,Option.map_eq_some_iff] at e
   obtain⟨tr,e1,rfl⟩:=e
   rcases List.mem_cons.1 hM with rfl|hM
   ·exact List.mem_append_left _ (hp s hs)
   ·exact List.mem_append_right _ (ih e1 M' hM s hs)
theorem PtL.get {l:List Pt}{Ms:List Mg}(h:PtL l Ms):(∀ p ∈ l,p.asked.ok)/\∀ M ∈ Ms,∃ p ∈ l,PtS p M:=by
 induction h with
 | nil=>exact⟨fun p hp=>by simp at hp,fun M hM=>by simp at hM⟩
 | @cons p M l Ms hp hl ih =>
  refine⟨fun x hx=>?_,fun N hN=>?_⟩
  ·rcases List.mem_cons.1 hx with rfl|hx
   ·exact hp.asked_ok
   ·exact ih.1 x hx
  ·rcases List.mem_cons.1 hN with rfl|hN
   ·exact⟨p,by simp,hp⟩
   ·obtain⟨q,hq,h⟩:=ih.2 N hN;exact⟨q,by simp [hq],h⟩
theorem ZeO {l:List Pt}{Ms:List Mg}(h:PtL l Ms):PtS (Zdg l) (fun s=>∃ M ∈ Ms,M s):=by
 unfold Zdg
 split
 ·rename_i ts hb
  obtain⟨tu,h1,h2⟩:=Option.bind_eq_some_iff.1 hb
  rintro s ⟨M,hM,hs⟩
  exact (Zme h2).2 (Zhi h h1 M hM s hs)
 ·obtain⟨h1,h2⟩:=h.get
  have h3:∀ q ∈ l.map Pt.asked,q.ok:=fun q hq=>by obtain⟨p,hp,rfl⟩:=List.mem_map.1 hq;exact h1 p hp
  refine⟨Zkw (.inr rfl) h3,?_⟩
  rintro s ⟨M,hM,hs⟩
  obtain⟨p,hp,hS⟩:=h2 M hM
  rw [Zmb h3,List.any_eq_true]
  exact⟨_,List.mem_map.2 ⟨p,hp,rfl⟩,hS.asked hs⟩
theorem ZjF (l:List Pt):PtB (Zdg l):=fun ts e=>by
 unfold Zdg at e
 split at e
 ·rename_i ts' hb
  cases e
  obtain⟨tu,_,h2⟩:=Option.bind_eq_some_iff.1 hb
  exact ZjE h2
 ·cases e
theorem PtL.rep {p:Pt}{M:Mg}(h:PtS p M):∀ n,PtL (List.replicate n p) (List.replicate n M)
 | 0=>.nil
 | n+1=>by rw [List.replicate_succ,List.replicate_succ];exact .cons h (PtL.rep h n)
theorem Zfj {p:Pt}{M:Mg}(h:PtS p M)(mn mx:Int)(hm:0<=mn):PtS (ZaV p mn mx) (fun s=>∃ r:Nat,mn.toNat<=r/\(mx=-1\/r<=mx.toNat)/\powS M r s):=by
 unfold ZaV
 split
 ·rename_i hh
  rintro s ⟨r,h1,h2,h3⟩
  obtain rfl:r=mn.toNat:=by
   rcases h2 with h2|h2
   ·have:=hh.1;omega
   ·rw [<- hh.1] at h2;omega
  refine Zcy (PtL.rep h _) ?_
  rw [hh.2,List.take_of_length_le (by simp),<- powS_cat]
  exact h3
 ·split
  ·exact⟨all_ok,fun s _=>rfl⟩
  ·rename_i h0
   refine⟨h.asked_ok,?_⟩
   rintro s ⟨r,h1,_,h3⟩
   obtain⟨k,rfl⟩:∃ k,r=k+1:=⟨r - 1,by omega⟩
   obtain⟨u,v,rfl,hu,_⟩:=h3
   exact Zhh (h.asked hu) [] v
theorem ZiB (p:Pt)(mn mx:Int):PtB (ZaV p mn mx):=fun ts e=>by
 unfold ZaV at e
 split at e
 ·cases e;exact Zb4 _
 ·split at e <;> cases e
theorem Zmi (op:Int)(l:List Qy):((Zb0 op l).map Qy.sz).sum<=(l.map Qy.sz).sum:=by
 unfold Zb0
 induction l with
 | nil=>simp
 | cons q r ih =>
  rw [List.flatMap_cons,List.map_append,List.sum_append,List.map_cons,List.sum_cons]
  have:((if q.op=op then q.l.ls else [q]).map Qy.sz).sum<=q.sz:=by
   split
   ·rw [sz_ls];unfold Qy.sz;omega
   ·simp
  omega
theorem sum_sub {α:Type}(f:α->Nat)(p:α->Bool)(l:List α):((l.filter p).map f).sum<=(l.map f).sum:=by
 induction l with
 | nil=>simp
 | cons a r ih =>
  by_cases h:p a
  ·rw [List.filter_cons_of_pos h];simp only [List.map_cons,List.sum_cons];omega
  ·rw [List.filter_cons_of_neg h];simp only [List.map_cons,List.sum_cons];omega
theorem Zmj (l:List Qy):∀ had:List Tx,((ZaL Qy.tell had l).map Qy.sz).sum<=(l.map Qy.sz).sum:=by
 induction l with
 | nil=>intro had;simp [ZaL]
 | cons a r ih =>
  intro had
  by_cases h:a.tell ∈ had
  ·simp only [ZaL,if_pos h,List.map_cons,List.sum_cons];have:=ih had;omega
  ·simp only [ZaL,if_neg h,List.map_cons,List.sum_cons];have:=ih (a.tell::had);omega
theorem ZiC {α:Type}(f:α->Nat){l:List α}{x:α}(h:x ∈ l):f x<=(l.map f).sum:=by
 induction l with
 | nil=>simp at h
 | cons a r ih =>
  rcases List.mem_cons.1 h with rfl|h
  ·simp
  ·have:=ih h;simp only [List.map_cons,List.sum_cons];omega
theorem sz_fq (l:List Qy):(fq l).sz=(l.map Qy.sz).sum:=by rw [<- sz_ls,Zgb]
theorem leftQ_sz (goes op:Int)(l:List Qy):(Zfg goes op l).sz<=1+(l.map Qy.sz).sum:=by
 match l with
 | []=>simp [Zfg,Qy.sz,Qf.sz]
 | [q]=>simp [Zfg]
 | a::b::r =>
  show 1+(fq (a::b::r)).sz<=_
  rw [sz_fq]
  exact Nat.le_refl _
theorem Zmk (op:Int)(l:List Qy):(tg op l).sz<=1+(l.map Qy.sz).sum:=by
 have h1:=Zmj (Zb0 op l) []
 have h2:=Zmi op l
 unfold tg
 split
 ·rename_i q hq
  have:=ZiC Qy.sz (List.mem_of_find?_eq_some hq)
  omega
 ·have h3:=leftQ_sz (Zej op) op ((ZaL Qy.tell [] (Zb0 op l)).filter (fun q=>q.op≠Zej op))
  have h4:=sum_sub Qy.sz (fun q=>decide (q.op≠Zej op)) (ZaL Qy.tell [] (Zb0 op l))
  omega
theorem sum_le {α:Type}(f:α->Nat)(l:List α)(k:Nat)(h:∀ x ∈ l,f x<=k):(l.map f).sum<=l.length * k:=by
 induction l with
 | nil=>simp
 | cons a r ih =>
  simp only [List.map_cons,List.sum_cons,List.length_cons,Nat.add_mul]
  have:=ih (fun x hx=>h x (by simp [hx]))
  have:=h a (by simp)
  omega
theorem Zd1 {ts:List Tx}(h:Bd ts):(Zba ts).sz<=993:=by
 unfold Zba
 have h1:=Zmk 4 (ts.map (fun s=>tg 3 ((ZaE s).map Zb1)))
 have h2:((ts.map (fun s=>tg 3 ((ZaE s).map Zb1))).map Qy.sz).sum<=ts.length * 31:=by
  rw [List.map_map]
  refine sum_le _ ts 31 (fun s hs=>?_)
  show (tg 3 ((ZaE s).map Zb1)).sz<=31
  have h3:=Zmk 3 ((ZaE s).map Zb1)
  have h4:(((ZaE s).map Zb1).map Qy.sz).sum=(ZaE s).length:=by
   rw [List.map_map]
   induction ZaE s with
   | nil=>rfl
   | cons a r ih=>simp only [List.map_cons,List.sum_cons,List.length_cons,ih];simp [Zb1,Qy.sz,Qf.sz];omega
  have h5:(ZaE s).length<=30:=by
   have h6:=Ziv (Zbq s)
   have h7:=Zcb s
   have h8:=h.2.1 s hs
   unfold ZaE
   omega
  omega
 have h3:ts.length * 31<=32 * 31:=Nat.mul_le_mul_right _ h.1
 omega
def PtZ (p:Pt)(n:Nat):Prop:=p.asked.sz<=n/\p.q.sz<=n
theorem Zet {ts:List Tx}(h:Bd ts){n:Nat}(hn:993<=n):PtZ (.told ts) n:=⟨Nat.le_trans (Zd1 h) hn,by show 1<=n;omega⟩
theorem ZiD {α:Type}(f:α->Nat)(l:List α)(n:Nat):((l.drop n).map f).sum<=(l.map f).sum:=by
 conv=>rhs;rw [<- List.take_append_drop n l]
 rw [List.map_append,List.sum_append]
 omega
theorem Zhj (w:Pt->Nat)(f:Nat):∀ l:List Pt,(∀ p ∈ l,PtZ p (w p)/\993<=w p)->((ZaT f l).map Qy.sz).sum<=(l.map w).sum:=by
 induction f with
 | zero=>intro l _;simp [ZaT]
 | succ f ih =>
  intro l h
  cases l with
  | nil=>simp [ZaT]
  | cons p r =>
   unfold ZaT
   split
   ·simp only [List.map_cons,List.sum_cons]
    have:=ih r (fun x hx=>h x (by simp [hx]))
    have:=(h p (by simp)).1.2
    omega
   ·rename_i h0
    obtain⟨k,hk⟩:∃ k,(Zaw (p::r)).2=k+1:=⟨(Zaw (p::r)).2 - 1,by omega⟩
    rw [hk,List.drop_succ_cons]
    simp only [List.map_cons,List.sum_cons]
    have h1:=ih (r.drop k) (fun x hx=>h x (List.mem_cons_of_mem _ (List.mem_of_mem_drop hx)))
    have h2:=ZiD w r k
    have h3:=Zd1 (Zb4 (p::r))
    have h4:=(h p (by simp)).2
    omega
theorem Zkz (f:Nat):∀ l:List Pt,(ZaT f l).length<=l.length:=by
 induction f with
 | zero=>intro l;simp [ZaT]
 | succ f ih =>
  intro l
  cases l with
  | nil=>simp [ZaT]
  | cons p r =>
   unfold ZaT
   split
   ·simp only [List.length_cons];have:=ih r;omega
   ·rename_i h0
    have:=ih ((p::r).drop (Zaw (p::r)).2)
    rw [List.length_drop] at this
    simp only [List.length_cons] at this ⊢
    omega
theorem allOf_sz (w:Pt->Nat)(l:List Pt)(h:∀ p ∈ l,PtZ p (w p)/\993<=w p):PtZ (Zdf l) (1000+(l.map w).sum):=by
 unfold Zdf
 split
 ·exact Zet (Zb4 l) (by omega)
 ·have h1:=Zhj w l.length l h
  have h2:=Zmk 3 (ZaT l.length l)
  exact⟨by show (tg 3 _).sz<=_;omega,by show (tg 3 _).sz<=_;omega⟩
theorem Zhk (w:Pt->Nat)(l:List Pt)(h:∀ p ∈ l,PtZ p (w p)/\993<=w p):((l.map Pt.asked).map Qy.sz).sum<=(l.map w).sum:=by
 rw [List.map_map]
 induction l with
 | nil=>simp
 | cons a r ih =>
  simp only [List.map_cons,List.sum_cons]
  exact Nat.add_le_add (h a (by simp)).1.1 (ih (fun x hx=>h x (by simp [hx])))
theorem oneOf_sz (w:Pt->Nat)(l:List Pt)(h:∀ p ∈ l,PtZ p (w p)/\993<=w p):PtZ (Zdg l) (1000+(l.map w).sum):=by
 have hb:=ZjF l
 unfold Zdg at hb ⊢
 split
 ·rename_i ts hs
  rw [hs] at hb
  exact Zet (hb ts rfl) (by omega)
 ·have h1:=Zhk w l h
  have h2:=Zmk 4 (l.map Pt.asked)
  exact⟨by show (tg 4 _).sz<=_;omega,by show (tg 4 _).sz<=_;omega⟩
theorem ZiE (p:Pt)(mn mx:Int)(n:Nat)(h:PtZ p n)(hn:993<=n):PtZ (ZaV p mn mx) n:=by
 unfold ZaV
 split
 ·exact Zet (Zb4 _) hn
 ·split
  ·exact⟨by show 1<=n;omega,by show 1<=n;omega⟩
  ·exact⟨h.1,h.1⟩
end G
section
open Go.RowKit
theorem Zgh (x:Nat)(h0:0<x)(hx:x<18446744073709551616):∃ m,x=2 ^ tz x * (2 * m+1)/\tz x<64:=by
 have h:tz x=Lib.ctzFrom 64 x:=by unfold tz Lib.ctz;rw [if_neg (by omega)]
 rw [h]
 exact Lib.ctzFrom_spec 64 x h0 hx
theorem ZiF (k m j:Nat):(2 ^ k * (2 * m+1)).testBit j=if j<k then false else if j=k then true else m.testBit (j - k - 1):=by
 have h:=Nat.testBit_two_pow_mul_add (2 * m+1) (i:=k) (b:=0) (Nat.two_pow_pos k) j
 rw [Nat.add_zero] at h
 rw [h]
 split
 ·simp
 ·rename_i hj
  split
  ·rename_i e;subst e;simp [Nat.testBit_zero,Nat.add_mod]
  ·rw [show j - k=(j - k - 1)+1 by omega,Nat.testBit_succ,show (2 * m+1) / 2=m by omega]
   simp
theorem off_bit (k m j:Nat):(2 ^ k * (2 * m+1) - 1).testBit j=if j<k then true else if j=k then false else m.testBit (j - k - 1):=by
 have hp:=Nat.two_pow_pos k
 have e:2 ^ k * (2 * m+1) - 1=2 ^ k * (2 * m)+(2 ^ k - 1):=by rw [Nat.mul_add,Nat.mul_one];omega
 rw [e,Nat.testBit_two_pow_mul_add (2 * m) (by omega) j]
 split
 ·rename_i h;simp [Nat.testBit_two_pow_sub_one,h]
 ·rename_i hj
  split
  ·rename_i e;subst e;simp [Nat.testBit_zero]
  ·rw [show j - k=(j - k - 1)+1 by omega,Nat.testBit_succ,show (2 * m) / 2=m by omega]
   simp
theorem Zml (x:Nat)(h0:0<x)(hx:x<18446744073709551616)(j:Nat):(x &&& (x - 1)).testBit j=(x.testBit j && decide (tz x<j)):=by
 obtain⟨m,hm,hk⟩:=Zgh x h0 hx
 generalize tz x=k at *
 subst hm
 rw [Nat.testBit_and,ZiF,off_bit]
 by_cases h1:j<k
 ·simp [h1]
 ·by_cases h2:j=k
  ·simp [h1,h2]
  ·have:k<j:=by omega
   simp [h1,h2,this]
theorem tz_bit (x:Nat)(h0:0<x)(hx:x<18446744073709551616):x.testBit (tz x)=true/\∀ j,j<tz x->x.testBit j=false:=by
 obtain⟨m,hm,hk⟩:=Zgh x h0 hx
 generalize tz x=k at *
 subst hm
 exact⟨by rw [ZiF];simp,fun j hj=>by rw [ZiF];simp [hj]⟩
theorem Zgi {p:Nat->Bool}{n:Nat}(h:∀ j,j<n->p j=false):(List.range n).filter p=[]:=by
 rw [List.filter_eq_nil_iff]
 intro j hj
 simp [h j (List.mem_range.1 hj)]
theorem Zhl {p q:Nat->Bool}{k:Nat}(h1:∀ j,j<k->p j=false)(h2:p k=true)(h3:∀ j,j<=k->q j=false)(h4:∀ j,k<j->p j=q j):∀ n,k<n->(List.range n).filter p=k::(List.range n).filter q
 | 0,h=>by omega
 | n+1,h=>by
  rw [List.range_succ,List.filter_append,List.filter_append]
  rcases Nat.lt_or_ge k n with hk|hk
  ·rw [Zhl h1 h2 h3 h4 n hk]
   simp [List.filter_cons,h4 n hk]
  ·obtain rfl:k=n:=by omega
   rw [Zgi h1,Zgi (fun j hj=>h3 j (by omega))]
   simp [h2,h3 k (Nat.le_refl _)]
def wl (x:Nat):List Nat:=(List.range 64).filter (x.testBit ·)
theorem wl_zero:wl 0=[]:=Zgi (fun j _=>by simp)
theorem wl_step (x:Nat)(h0:0<x)(hx:x<18446744073709551616):wl x=tz x::wl (x &&& (x - 1)):=by
 obtain⟨m,hm,hk⟩:=Zgh x h0 hx
 obtain⟨b1,b2⟩:=tz_bit x h0 hx
 refine Zhl b2 b1 (fun j hj=>?_) (fun j hj=>?_) 64 hk
 ·simp only [Zml x h0 hx]
  simp;omega
 ·simp only [Zml x h0 hx]
  simp [hj]
theorem mem_wl (x n:Nat):n ∈ wl x↔n<64/\x.testBit n=true:=by simp [wl]
structure OkW (W:List Nat):Prop where
 len:W.length=32
 lt:∀ k,W.getD k 0<18446744073709551616
def inW (W:List Nat)(n:Nat):Bool:=(W.getD (n / 64) 0).testBit (n % 64)
def Zgj (W:List Nat)(n:Nat):List Nat:=W.set (n / 64) (W.getD (n / 64) 0 ||| 2 ^ (n % 64))
def noW:List Nat:=List.replicate 32 0
theorem Zmm (k:Nat):noW.getD k 0=0:=by
 unfold noW
 rw [List.getD_eq_getElem?_getD,List.getElem?_replicate]
 split <;> rfl
theorem OkW.no:OkW noW:=⟨by simp [noW],fun k=>by rw [Zmm];omega⟩
theorem ZjG (n:Nat):inW noW n=false:=by unfold inW;rw [Zmm];simp
theorem setD (W:List Nat)(i v k:Nat)(h:i<W.length):(W.set i v).getD k 0=if k=i then v else W.getD k 0:=by
 rw [List.getD_eq_getElem?_getD,List.getElem?_set,List.getD_eq_getElem?_getD]
 by_cases e:i=k
 ·subst e;simp [h]
 ·rw [if_neg e,if_neg (fun h=>e h.symm)]
theorem or_lt (x r:Nat)(hx:x<18446744073709551616)(hr:r<64):x ||| 2 ^ r<18446744073709551616 :=
 Nat.or_lt_two_pow (n:=64) hx (Nat.pow_lt_pow_right (by decide) hr)
theorem OkW.add {W:List Nat}(h:OkW W){n:Nat}(hn:n<2048):OkW (Zgj W n):=⟨by simp [Zgj,h.len],fun k=>by
 unfold Zgj
 rw [setD W _ _ _ (by rw [h.len];omega)]
 split
 ·exact or_lt _ _ (h.lt _) (by omega)
 ·exact h.lt k⟩
theorem Zmn {W:List Nat}(h:OkW W){n:Nat}(hn:n<2048)(m:Nat):inW (Zgj W n) m=(decide (m=n) || inW W m):=by
 unfold inW Zgj
 rw [setD W _ _ _ (by rw [h.len];omega)]
 by_cases e:m / 64=n / 64
 ·rw [if_pos e,Nat.testBit_or,Nat.testBit_two_pow,e]
  by_cases e2:m=n
  ·subst e2;simp
  ·have:¬ n % 64=m % 64:=by omega
   simp [e2,this]
 ·rw [if_neg e]
  have:¬ m=n:=fun h=>e (by rw [h])
  simp [this]
theorem and_off (x r:Nat):(x &&& 2 ^ r=0)↔x.testBit r=false:=by
 constructor
 ·intro h
  have:=congrArg (fun z=>z.testBit r) h
  simpa [Nat.testBit_and,Nat.testBit_two_pow_self] using this
 ·intro h
  apply Nat.eq_of_testBit_eq
  intro j
  rw [Nat.testBit_and,Nat.testBit_two_pow]
  by_cases e:r=j
  ·subst e;simp [h]
  ·simp [e]
def ZdG (W:List Nat):Nat->Nat->List Nat
 | _,0=>[]
 | k,c+1=>(wl (W.getD k 0)).map (fun j=>k * 64+j)++ZdG W (k+1) c
def ZiG (W:List Nat):List Nat:=ZdG W 0 32
theorem Zhm (W:List Nat)(n:Nat):∀ c k,n ∈ ZdG W k c↔k * 64<=n/\n<(k+c) * 64/\inW W n=true
 | 0,k=>by simp [ZdG];omega
 | c+1,k=>by
  rw [ZdG,List.mem_append,Zhm W n c (k+1),List.mem_map]
  constructor
  ·rintro (⟨j,hj,rfl⟩|⟨h1,h2,h3⟩)
   ·rw [mem_wl] at hj
    refine⟨by omega,by omega,?_⟩
    unfold inW
    rw [show (k * 64+j) / 64=k by omega,show (k * 64+j) % 64=j by omega]
    exact hj.2
   ·exact⟨by omega,by omega,h3⟩
  ·rintro⟨h1,h2,h3⟩
   by_cases h:n<(k+1) * 64
   ·left
    refine⟨n - k * 64,(mem_wl _ _).2 ⟨by omega,?_⟩,by omega⟩
    unfold inW at h3
    rw [show n / 64=k by omega,show n % 64=n - k * 64 by omega] at h3
    exact h3
   ·right
    exact⟨by omega,by omega,h3⟩
theorem inW_lt {W:List Nat}(h:OkW W){n:Nat}(hi:inW W n=true):n<2048:=by
 apply Classical.byContradiction
 intro hn
 unfold inW at hi
 rw [List.getD_eq_getElem?_getD,List.getElem?_eq_none (by rw [h.len];omega)] at hi
 simp at hi
theorem Zc6 {W:List Nat}(h:OkW W)(n:Nat):n ∈ ZiG W↔inW W n=true:=by
 unfold ZiG
 rw [Zhm]
 exact⟨fun h=>h.2.2,fun hi=>⟨by omega,by have:=inW_lt h hi;omega,hi⟩⟩
def wA (W:List Nat):Array Value:=(W.map (fun x:Nat=>Value.int .u64 ((x:Nat):Int))).toArray
theorem Zd2 (W:List Nat):(wA W).size=W.length:=by simp [wA]
theorem wA_at {W:List Nat}{k:Nat}(h:k<W.length):(wA W)[k]?=some (.int .u64 ((W.getD k 0:Nat):Int)):=by
 simp [wA,h,List.getD_eq_getElem?_getD]
theorem wA_set (W:List Nat)(k v:Nat):(wA W).setIfInBounds k (.int .u64 (v:Int))=wA (W.set k v):=by
 simp [wA,List.map_set]
theorem wA_all (W:List Nat):(wA W).all (·.oneCell')=true:=by
 rw [Array.all_eq_true_iff_forall_mem]
 intro x hx
 simp only [wA,List.mem_toArray,List.mem_map] at hx
 obtain⟨y,_,rfl⟩:=hx
 rfl
def pA (pre:Array Value)(W:List Nat):Array Value:=pre++wA W
theorem pA_at {pre:Array Value}{W:List Nat}{k:Nat}(h:k<W.length):(pA pre W)[pre.size+k]?=some (.int .u64 ((W.getD k 0:Nat):Int)):=by
 unfold pA
 rw [Array.getElem?_append_right (by omega),Nat.add_sub_cancel_left]
 exact wA_at h
theorem pA_set (pre:Array Value)(W:List Nat)(k v:Nat):(pA pre W).setIfInBounds (pre.size+k) (.int .u64 (v:Int))=pA pre (W.set k v):=by
 unfold pA
 rw [<- wA_set]
 apply Array.ext'
 simp [List.set_append]
end
section
open Go.RowKit
theorem ZiH (x y:Nat)(hx:x<18446744073709551616)(hy:y<18446744073709551616):bits BinOp.and IntKind.u64 (x:Int)(y:Int)=((x &&& y:Nat):Int):=u64_and_nat x y hx hy
theorem or_nat (x y:Nat)(hx:x<18446744073709551616)(hy:y<18446744073709551616):bits BinOp.or IntKind.u64 (x:Int)(y:Int)=((x ||| y:Nat):Int):=u64_or_nat x y hx hy
theorem pow_wrap (r:Nat)(hr:r<64):IntKind.u64.wrap (2 ^ r)=((2 ^ r:Nat):Int):=by
 have h:2 ^ r<18446744073709551616:=Nat.pow_lt_pow_right (a:=2) (by decide) hr
 have e:((2:Int) ^ r)=((2 ^ r:Nat):Int):=by norm_cast
 rw [IntKind.wrap_u64,e]
 generalize 2 ^ r=z at h
 omega
theorem add_any (g:Nat)(pre:Array Value)(t:TypeId)(W:List Nat)(n:Nat)(hW:OkW W)(hn:n<2048)(w:World)(hg:w.heap[g]?=some (.cells (pA pre W) t (0,0))) :
  Calls Tryz.prog 165 #[.pointer (some ⟨g,pre.size,none⟩),.int .i64 (n:Int)] w fun e w'=>e=.returned (.bool (!inW W n))/\w'.heap[g]?=some (.cells (pA pre (Zgj W n)) t (0,0))/\But (fun k=>k=g) w w':=by
 have hlen:=hW.len
 have c0:(pA pre W)[pre.size+n / 64]?=some (.int .u64 ((W.getD (n / 64) 0:Nat):Int)):=pA_at (by omega)
 have hx:=hW.lt (n / 64)
 have hset:=pA_set pre W (n / 64) (W.getD (n / 64) 0 ||| 2 ^ (n % 64))
 have hbit:=and_off (W.getD (n / 64) 0) (n % 64)
 have hin:inW W n=(W.getD (n / 64) 0).testBit (n % 64):=rfl
 have hadd:Zgj W n=W.set (n / 64) (W.getD (n / 64) 0 ||| 2 ^ (n % 64)):=rfl
 rw [hin,hadd]
 clear hin hadd
 have hr:n % 64<64:=by omega
 have e1:(n:Int).tdiv 64=((n / 64:Nat):Int):=by rw [Int.tdiv_eq_ediv_of_nonneg (by omega)];omega
 have e3:(n:Int) / 64=((n / 64:Nat):Int):=by omega
 have e2:(n:Int).tmod 64=((n % 64:Nat):Int):=by rw [Int.tmod_eq_emod_of_nonneg (by omega)];omega
 have q1:((n / 64:Nat):Int)<32:=by omega
 generalize n / 64=q at *
 generalize n % 64=r at *
 generalize W.getD q 0=x at *
 have s1:=pow_wrap r hr
 have hp:2 ^ r<18446744073709551616:=Nat.pow_lt_pow_right (a:=2) (by decide) hr
 have s2:=ZiH x (2 ^ r) hx hp
 have s3:=or_nat x (2 ^ r) hx hp
 generalize 2 ^ r=y at s1 s2 s3 hset hbit hp ⊢
 have c1:w.cell? ⟨g,pre.size+q,none⟩=some (.int .u64 (x:Int)):=by rw [cell_of_row w g _ _ t (0,0) hg];exact c0
 have f1:w.frozen? ⟨g,pre.size+q,none⟩=false:=frozen_of_row w g _ _ t hg
 have hsr:=setCell_eq_setRow w g (pre.size+q) (pA pre W) t (0,0) (.int .u64 ((x ||| y:Nat):Int)) hg
 rw [hset] at hsr
 replace hset:=Zaa hset
 replace hsr:=Zaa hsr
 replace hg:=Zaa hg
 generalize pre.size=o at *
 have hres:(((x &&& y:Nat):Int) == 0)=!x.testBit r:=by
  cases hb:x.testBit r with
  | true =>
   have:¬ (x &&& y=0):=fun h=>by rw [hbit.1 h] at hb;cases hb
   simp;omega
  | false=>have:=hbit.2 hb;simp [this]
 generalize (x &&& y:Nat)=a1 at *
 generalize hor:(x ||| y:Nat)=a2 at *
 have r0:(0:Int)<=r:=by omega
 clear hbit e3 hor
 go_enter Tryz.func165,Tryz.ntmps165
 go_wp2_with fail
 go_quiet (fail)
 go_wp2_with fail
 go_ret
 have hg2:(w.drewN nq).heap[g]?=some (.cells (pA pre W) t (0,0)):=hg.out
 have hs2:=setCell_eq_setRow (w.drewN nq) g (o+q) (pA pre W) t (0,0) (.int .u64 (a2:Int)) hg2
 rw [hset.out] at hs2
 rw [hs2]
 exact⟨rfl,setRow_heap _ _ _ _ t (0,0) hg2,((But.refl (fun k=>k=g) w).drewN nq).setRow (fun _=>rfl) _⟩
theorem Zhn {w:World}{g:Nat}{pre:Array Value}{t:TypeId}{W:List Nat}(hg:w.heap[g]?=some (.cells (pA pre W) t (0,0))):w.rangeAt g pre.size (wA W).toList:=fun j v hv=>by
 rw [cell_of_row w g _ _ t (0,0) hg]
 unfold pA
 rw [Array.getElem?_append_right (by omega),Nat.add_sub_cancel_left]
 simpa using hv
theorem load99 {w:World}{g:Nat}{pre:Array Value}{t:TypeId}{W:List Nat}(hW:OkW W)(hg:w.heap[g]?=some (.cells (pA pre W) t (0,0))):(loadVar 170 ⟨g,pre.size,none⟩).run Tryz.prog w=.ok (.agg (wA W)) w:=by
 have hi:(Tryz.prog.info? 170).map (·.size)=some 32:=by kernel_rfl
 have:=run_loadVar_mid (P:=Tryz.prog) w g pre.size 170 (wA W).toList _ (Zhn hg) Tryz.underlying170 rfl (by rw [hi,Array.length_toList,Zd2,hW.len])
 simpa using this
theorem Zmo {w:World}{g:Nat}{pre:Array Value}{t:TypeId}{W:List Nat}(hW:OkW W)(hg:w.heap[g]?=some (.cells (pA pre W) t (0,0))):(loadVar 172 ⟨g,pre.size,none⟩).run Tryz.prog w=.ok (.agg (wA W)) w:=by
 have hi:(Tryz.prog.info? 172).map (·.size)=some 32:=by kernel_rfl
 have:=run_loadVar_mid (P:=Tryz.prog) w g pre.size 172 (wA W).toList _ (Zhn hg) Tryz.underlying172 rfl (by rw [hi,Array.length_toList,Zd2,hW.len])
 simpa using this
theorem ZiI:Tryz.prog.plainKey 22=true:=by kernel_rfl
theorem ZjH (W V:List Nat)(hW:OkW W)(hV:OkW V)(d:Nat)(w:World):∀ ks:List Nat,(∀ k ∈ ks,k<32)->(Op.eqItems (d+1) 22 1 (wA W) (wA V) ks).run Tryz.prog w=.ok (ks.all fun k=>W.getD k 0 == V.getD k 0) w
 | [],_=>by simp [Op.eqItems]
 | k::ks,h=>by
  have hk:=h k (by simp)
  have ih:=ZjH W V hW hV d w ks (fun j hj=>h j (by simp [hj]))
  have p1:(part 22 (wA W) (k * 1)).run Tryz.prog w=.ok (.int .u64 ((W.getD k 0:Nat):Int)) w:=run_part_plain _ ZiI (by rw [Nat.mul_one];exact wA_at (by rw [hW.len];exact hk))
  have p2:(part 22 (wA V) (k * 1)).run Tryz.prog w=.ok (.int .u64 ((V.getD k 0:Nat):Int)) w:=run_part_plain _ ZiI (by rw [Nat.mul_one];exact wA_at (by rw [hV.len];exact hk))
  have he:(Op.equalIn (d+1) 22 (.int .u64 ((W.getD k 0:Nat):Int)) (.int .u64 ((V.getD k 0:Nat):Int))).run Tryz.prog w=.ok (((W.getD k 0:Nat):Int) ==((V.getD k 0:Nat):Int)) w:=run_equalIn_int w d 22 .u64 .u64 _ _ Tryz.underlying22
  have e2:(((W.getD k 0:Nat):Int) ==((V.getD k 0:Nat):Int))=(W.getD k 0 == V.getD k 0):=by
   rw [Bool.eq_iff_iff,beq_iff_eq,beq_iff_eq]
   exact Int.ofNat_inj
  simp only [Op.eqItems,Sem.run_bind,p1,p2,he,Result.andThen_ok,e2,List.all_cons]
  cases (W.getD k 0 == V.getD k 0) <;> simp [ih]
theorem ZkA {W V:List Nat}(hW:OkW W)(hV:OkW V):((List.range 32).all fun k=>W.getD k 0 == V.getD k 0)=decide (W=V):=by
 rw [Bool.eq_iff_iff,List.all_eq_true,decide_eq_true_iff]
 constructor
 ·intro h
  apply List.ext_getElem?
  intro k
  by_cases hk:k<32
  ·have:=h k (by simpa using hk)
   have l1:k<W.length:=by rw [hW.len];exact hk
   have l2:k<V.length:=by rw [hV.len];exact hk
   rw [List.getElem?_eq_getElem l1,List.getElem?_eq_getElem l2]
   simpa [List.getD_eq_getElem?_getD,List.getElem?_eq_getElem l1,List.getElem?_eq_getElem l2] using this
  ·rw [List.getElem?_eq_none (by rw [hW.len];omega),List.getElem?_eq_none (by rw [hV.len];omega)]
 ·rintro rfl k _
  simp
theorem Zmp:Tryz.prog.underlying 172=some (.struct (Tryz.prog.fieldsOf 172)):=by kernel_rfl
theorem held101:Tryz.prog.stoodInHeld 172=false:=by kernel_rfl
theorem flds101:(Tryz.prog.fieldsOf 172).toList.map (fun f=>(f.type,f.offset,f.name))=[(170,0, "words")]:=by kernel_rfl
theorem Zmq (W V:List Nat)(hW:OkW W)(hV:OkW V)(w:World):(binOp .eql 172 (.agg (wA W)) (.agg (wA V))).run Tryz.prog w=.ok (.bool (decide (W=V))) w:=by
 have hf:∃ f,(Tryz.prog.fieldsOf 172).toList=[f]/\f.type=170/\f.offset=0/\f.name= "words":=by
  have h:=flds101
  generalize (Tryz.prog.fieldsOf 172).toList=l at h
  match l with
  | []=>simp at h
  | [f]=>simp at h;exact⟨f,rfl,h.1,h.2.1,h.2.2⟩
  | _::_::_=>simp at h
 obtain⟨f,hf,f1,f2,f3⟩:=hf
 have hi:∃ i,Tryz.prog.info? 22=some i:=Option.isSome_iff_exists.1 (by kernel_rfl)
 obtain⟨i,hi⟩:=hi
 have hc:Tryz.prog.cellsOf 22=1:=by kernel_rfl
 have i99:(Tryz.prog.info? 170).map (·.size)=some 32:=by kernel_rfl
 have hp:∀ (X:List Nat),OkW X->∀ w,(part 170 (wA X) 0).run Tryz.prog w=.ok (.agg (wA X)) w:=fun X hX w=>by
  have ha:∀ w,(isAgg 170).run Tryz.prog w=.ok true w:=fun w=>by kernel_rfl
  have hz:∀ w,(sizeOf 170).run Tryz.prog w=.ok 32 w:=fun w=>by kernel_rfl
  have e:(wA X).extract 0 (0+32)=wA X:=by
   have:(wA X).size=32:=by rw [Zd2,hX.len]
   rw [Nat.zero_add,<- this,Array.extract_size]
  unfold part
  simp only [Sem.run_bind,ha,Result.andThen_ok,if_true,hz,Sem.run_pure,e]
 have h9:∀ w,(Op.equalIn 9999 170 (.agg (wA W)) (.agg (wA V))).run Tryz.prog w=.ok (decide (W=V)) w:=fun w=>by
  rw [run_equalIn_array w 9998 (e:=22) (n:=32) (wA W) (wA V) Tryz.underlying170 hi,hc,ZjH W V hW hV 9997 w _ (fun k hk=>by simpa using hk),ZkA hW hV]
 rw [run_eql_struct,run_equalIn_struct w 9999 172 (wA W) (wA V) Zmp held101,hf]
 simp [Op.eqFields,f1,f2,f3,hp W hW,hp V hV,h9]
 split <;> simp_all
theorem Zho (w:World)(ev:Operand->Value)(dst:Option Nat)(ty:TypeId)(pos:String)(after:Array Edge):(execOp ev ⟨dst,.build 172 #[],ty,pos,after,none⟩).run Tryz.prog w=.ok (.value (.agg (wA noW))) w:=by
 unfold execOp
 kernel_rfl
section
variable {w w':World}{ops:Array Oper}{rest:List Oper}{a:Act}{Q:Exit->Act->World->Prop}{dst:Option Nat}{x y:Operand}{ty t:TypeId}{pos:String}{after:Array Edge}
theorem Zmr (t:TypeId){ad:Addr}{v:Value}(hx:a.eval x=.pointer (some ad))(hl:(loadVar t ad).run Tryz.prog w=.ok v w)
  (k:wpList Tryz.prog ops Q rest (a.put dst v) w):wpList Tryz.prog ops Q (⟨dst,.load t x,ty,pos,after,none⟩::rest) a w:=by
 refine wpList_plain rfl fun K hK=>?_
 unfold Oper.wp execOp
 simp only [hx,Instr.loadAt,Instr.sureAddr,Sem.run_bind,Sem.run_pure,Result.andThen_ok,hl]
 exact hK _ _ k
theorem Zhp (t:TypeId)(xs:Array (Nat × Operand))(h:wpList Tryz.prog ops Q (⟨dst,.build t xs,ty,pos,after,none⟩::rest) a w):wpList Tryz.prog ops Q (⟨dst,.build t xs,ty,pos,after,none⟩::rest) a w:=h
theorem Zms {t2:TypeId}{W V:List Nat}{b:Bool}(hx:a.eval x=.agg (wA W))(hy:a.eval y=.agg (wA V))(he:(binOp .eql 172 (.agg (wA W)) (.agg (wA V))).run Tryz.prog w=.ok (.bool b) w)
  (k:wpList Tryz.prog ops Q rest (a.put dst (.bool b)) w):wpList Tryz.prog ops Q (⟨dst,.binOp .eql 172 x y t2,ty,pos,after,none⟩::rest) a w:=by
 refine ZaI (w':=w) ?_ k
 have kg:Tryz.prog.eqGuardType Tryz.prog.depth 172=false:=by kernel_rfl
 have hq:(eqGuard .eql 172 x y (.agg (wA W)) (.agg (wA V))).run Tryz.prog w=.ok () w:=by
  unfold eqGuard
  simp [kg]
 unfold execOp
 simp only [hx,hy,Sem.run_bind,hq,he,Result.andThen_ok,Sem.run_pure]
theorem at_eql (t t2:TypeId)(h:wpList Tryz.prog ops Q (⟨dst,.binOp .eql t x y t2,ty,pos,after,none⟩::rest) a w):wpList Tryz.prog ops Q (⟨dst,.binOp .eql t x y t2,ty,pos,after,none⟩::rest) a w:=h
end
theorem ZiJ (g:Nat)(pre:Array Value)(t:TypeId)(W:List Nat)(hW:OkW W)(w:World)(hg:w.heap[g]?=some (.cells (pA pre W) t (0,0))) :
  Calls Tryz.prog 168 #[.pointer (some ⟨g,pre.size,none⟩)] w fun e w'=>e=.returned (.bool (decide (W=noW)))/\w'=w:=by
 have hl:=Zaa (Zmo hW hg)
 have he:=Zaa (Zmq W noW hW OkW.no w)
 generalize decide (W=noW)=b at *
 generalize pre.size=o at *
 clear hg
 go_enter Tryz.func168,Tryz.ntmps168
 go_wp2_with (first|((with_reducible refine Zac 172 ?_);refine Zmr 172 rfl hl.out ?_)|((with_reducible refine Zhp 172 _ ?_);refine ZaI (Zho _ _ _ _ _ _) ?_)|((with_reducible refine at_eql 172 _ ?_);refine Zms rfl rfl he.out ?_))
 go_ret
 exact⟨rfl,rfl⟩
theorem all_in (n:Nat)(ad:Addr)(w:World):CallsIn Fence.wide n Tryz.prog 114 #[.pointer (some ad)] w fun e w'=>∃ g,e=.returned (.func (.func 169) #[] #[.pointer (some ⟨g,0,none⟩)])/\w'.heap[g]?=some (.cells #[.pointer (some ad)] 176 (0,0))/\Below w.heap.size w w'/\w.heap.size<=g:=by
 have hmf:∀ (fn:Fn) (first cap:Array Value) (w:World),(Instr.makeFunc fn first cap).run Tryz.prog w=.ok (.func fn first cap) w:=fun _ _ _ _=>rfl
 refine callsIn_of_wp Tryz.func114 rfl trivial ?_ rfl
 simp only [Tryz.ntmps114,List.size_toArray,List.length_cons,List.length_nil,Nat.reduceAdd,Nat.reduceSub,Array.replicate_succ,Array.replicate_zero,List.push_toArray,List.append_toArray,List.nil_append,List.cons_append]
 gi_wp2
 go_ret
 exact⟨_,rfl,heap_alloc_new w _,(Below.refl _ w).alloc (Nat.le_refl _) _,Nat.le_refl _⟩
end
section
open Go.RowKit
def inS (s:S4)(b:Nat):Bool:=(s.get (b / 64) / 2 ^ (b % 64)).tmod 2 == 1
theorem inS_no (b:Nat):inS noSet b=false:=by
 have h:∀ k,noSet.get k=0:=fun k=>by unfold S4.get;split <;> rfl
 unfold inS
 rw [h]
 simp
abbrev Lg:=List Nat->Prop
def eps:Lg:=fun s=>s=[]
def cat (M N:Lg):Lg:=fun s=>∃ u v,s=u++v/\M u/\N v
def ZkB (M:Lg):Nat->Lg
 | 0=>eps
 | r+1=>cat M (ZkB M r)
def sqM:List Lg->Lg
 | []=>eps
 | M::r=>cat M (sqM r)
def orM (l:List Lg):Lg:=fun s=>∃ M ∈ l,M s
def star (M:Lg):Lg:=fun s=>∃ r,ZkB M r s
def upto (M:Lg)(j:Nat):Lg:=fun s=>∃ r,r<=j/\ZkB M r s
def repM (M:Lg)(mn:Nat)(mx:Int):Lg:=fun s=>∃ r,mn<=r/\(mx=-1\/r<=mx.toNat)/\ZkB M r s
def byM (x:S4):Lg:=fun s=>∃ b,s=[b]/\inS x b=true
def meN (n:Nd)(l:List Lg):Lg:=if n.k=1 then byM n.s else if n.k=4 then repM (l.headD eps) n.mn.toNat n.mx else if n.k=3 then orM l else sqM l
def Fo.mes:Fo->List Lg
 | .nil=>[]
 | .cons n k r=>meN n k.mes::r.mes
theorem Fo.mes_len:∀ f:Fo,f.mes.length=f.len
 | .nil=>rfl
 | .cons n k r=>by simp [Fo.mes,Fo.len,Fo.mes_len r]
def meT (t:Tr):Lg:=meN t.1 t.2.mes
theorem ZiK (M:Lg)(s:List Nat):cat M eps s↔M s:=⟨fun ⟨u,v,h,h1,h2⟩=>by have h3:v=[]:=h2;subst h3;rw [h,List.append_nil];exact h1,fun h=>⟨s,[],by simp,h,rfl⟩⟩
theorem Zhq (M N O:Lg)(s:List Nat):cat (cat M N) O s↔cat M (cat N O) s:=by
 constructor
 ·rintro⟨_,w,rfl,⟨u,v,rfl,h1,h2⟩,h3⟩
  exact⟨u,v++w,by simp,h1,v,w,rfl,h2,h3⟩
 ·rintro⟨u,_,rfl,h1,v,w,rfl,h2,h3⟩
  exact⟨u++v,w,by simp,⟨u,v,rfl,h1,h2⟩,h3⟩
def AccN (L:List Ins):Nat->Nat->List Nat->Prop
 | 0,i,s=>∃ q,L[i]?=some q/\q.op=3/\s=[]
 | k+1,i,s=>∃ q,L[i]?=some q/\(((q.op=2\/q.op=4)/\AccN L k q.x.toNat s)\/(q.op=2/\AccN L k q.y.toNat s)\/(q.op=1/\∃ b v,s=b::v/\inS q.s b=true/\AccN L k q.x.toNat v))
def Acc (L:List Ins)(i:Nat)(s:List Nat):Prop:=∃ k,AccN L k i s
def Lies (L:List Ins)(a:Nat)(M:List Ins):Prop:=∀ k i,M[k]?=some i->L[a+k]?=some i
theorem Lies.left {L M N:List Ins}{a:Nat}(h:Lies L a (M++N)):Lies L a M:=fun k i hk=>h k i (by rw [List.getElem?_append_left (List.getElem?_eq_some_iff.1 hk).1];exact hk)
theorem Lies.right {L M N:List Ins}{a:Nat}(h:Lies L a (M++N)):Lies L (a+M.length) N:=fun k i hk=>by
 have:=h (M.length+k) i (by rw [List.getElem?_append_right (by omega),Nat.add_sub_cancel_left];exact hk)
 rwa [<- Nat.add_assoc] at this
theorem Lies.head {L M:List Ins}{a:Nat}{i:Ins}(h:Lies L a (i::M)):L[a]?=some i:=h 0 i rfl
theorem Lies.tail {L M:List Ins}{a:Nat}{i:Ins}(h:Lies L a (i::M)):Lies L (a+1) M:=fun k j hk=>by
 have:=h (k+1) j (by simpa using hk)
 rwa [show a+(k+1)=a+1+k by omega] at this
structure MnA (L:List Ins) (a m:Nat) (M:Lg):Prop where
 snd:∀ k s,AccN L k a s->∃ u v k',s=u++v/\M u/\k'<k/\AccN L k' m v
 cpl:∀ u v,M u->Acc L m v->Acc L a (u++v)
def MnL (f:Nat->List Ins)(m:Nat)(M:Lg):Prop:=∀ L a,Lies L a (f a)->MnA L a m M
def Mns (c:Cd)(M:Lg):Prop:=∀ m,MnL (fun a=>c.put a m) m M
theorem MnA.iff {L:List Ins}{a m:Nat}{M N:Lg}(h:MnA L a m M)(e:∀ s,M s↔N s):MnA L a m N :=
 ⟨fun k s hs=>by obtain⟨u,v,k',h1,h2,h3⟩:=h.snd k s hs;exact⟨u,v,k',h1,(e u).1 h2,h3⟩,fun u v hu hv=>h.cpl u v ((e u).2 hu) hv⟩
theorem MnA.cat {L:List Ins}{a b m:Nat}{M N:Lg}(h:MnA L a b M)(k:MnA L b m N):MnA L a m (cat M N) :=
 ⟨fun n s hs=>by
  obtain⟨u,v,n1,rfl,h2,h3,h4⟩:=h.snd n s hs
  obtain⟨u2,v2,n2,rfl,k2,k3,k4⟩:=k.snd n1 v h4
  exact⟨u++u2,v2,n2,by simp,⟨u,u2,rfl,h2,k2⟩,by omega,k4⟩,
  fun u v hu hv=>by
  obtain⟨x,y,rfl,hx,hy⟩:=hu
  rw [List.append_assoc]
  exact h.cpl x (y++v) hx (k.cpl y v hy hv)⟩
theorem sgl_mns (x:S4):Mns (sgl 1 x) (byM x):=fun m L a h=>by
 have h0:L[a]?=some ⟨1,x,(m:Int),0⟩:=Lies.head (M:=[]) h
 constructor
 ·intro k s hs
  cases k with
  | zero =>
   obtain⟨q,hq,hop,_⟩:=hs
   rw [h0] at hq;cases hq
   simp at hop
  | succ k =>
   obtain⟨q,hq,hh⟩:=hs
   rw [h0] at hq;cases hq
   rcases hh with⟨h1,_⟩|⟨h1,_⟩|⟨_,b,v,rfl,hb,hv⟩
   ·simp at h1
   ·simp at h1
   ·exact⟨[b],v,k,rfl,⟨b,rfl,hb⟩,by omega,by simpa using hv⟩
 ·rintro u v ⟨b,rfl,hb⟩ ⟨k,hk⟩
  exact⟨k+1,_,h0,.inr (.inr ⟨rfl,b,v,rfl,hb,by simpa using hk⟩)⟩
theorem jump_mna {L:List Ins}{a m:Nat}(h0:L[a]?=some ⟨4,noSet,(m:Int),0⟩):MnA L a m eps:=by
 constructor
 ·intro k s hs
  cases k with
  | zero =>
   obtain⟨q,hq,hop,_⟩:=hs
   rw [h0] at hq;cases hq
   simp at hop
  | succ k =>
   obtain⟨q,hq,hh⟩:=hs
   rw [h0] at hq;cases hq
   rcases hh with⟨_,hv⟩|⟨h1,_⟩|⟨h1,_⟩
   ·exact⟨[],s,k,rfl,rfl,by omega,by simpa using hv⟩
   ·simp at h1
   ·simp at h1
 ·rintro u v rfl ⟨k,hk⟩
  exact⟨k+1,_,h0,.inl ⟨.inr rfl,by simpa using hk⟩⟩
theorem Zmt {L:List Ins}{a x y m:Nat}{M N:Lg}(h0:L[a]?=some ⟨2,noSet,(x:Int),(y:Int)⟩)(h:MnA L x m M)(k:MnA L y m N):MnA L a m (fun s=>M s\/N s):=by
 constructor
 ·intro n s hs
  cases n with
  | zero =>
   obtain⟨q,hq,hop,_⟩:=hs
   rw [h0] at hq;cases hq
   simp at hop
  | succ n =>
   obtain⟨q,hq,hh⟩:=hs
   rw [h0] at hq;cases hq
   rcases hh with⟨_,hv⟩|⟨_,hv⟩|⟨h1,_⟩
   ·obtain⟨u,v,k',e,h2,h3,h4⟩:=h.snd n s (by simpa using hv)
    exact⟨u,v,k',e,.inl h2,by omega,h4⟩
   ·obtain⟨u,v,k',e,h2,h3,h4⟩:=k.snd n s (by simpa using hv)
    exact⟨u,v,k',e,.inr h2,by omega,h4⟩
   ·simp at h1
 ·rintro u v (hu|hu) hv
  ·obtain⟨n,hn⟩:=h.cpl u v hu hv
   exact⟨n+1,_,h0,.inl ⟨.inl rfl,by simpa using hn⟩⟩
  ·obtain⟨n,hn⟩:=k.cpl u v hu hv
   exact⟨n+1,_,h0,.inr (.inl ⟨rfl,by simpa using hn⟩)⟩
theorem Zhr {L:List Ins}{a x m:Nat}{M:Lg}(h0:L[a]?=some ⟨2,noSet,(x:Int),(m:Int)⟩)(h:MnA L x m M):MnA L a m (fun s=>M s\/s=[]):=by
 constructor
 ·intro n s hs
  cases n with
  | zero =>
   obtain⟨q,hq,hop,_⟩:=hs
   rw [h0] at hq;cases hq
   simp at hop
  | succ n =>
   obtain⟨q,hq,hh⟩:=hs
   rw [h0] at hq;cases hq
   rcases hh with⟨_,hv⟩|⟨_,hv⟩|⟨h1,_⟩
   ·obtain⟨u,v,k',e,h2,h3,h4⟩:=h.snd n s (by simpa using hv)
    exact⟨u,v,k',e,.inl h2,by omega,h4⟩
   ·exact⟨[],s,n,rfl,.inr rfl,by omega,by simpa using hv⟩
   ·simp at h1
 ·rintro u v (hu|rfl) hv
  ·obtain⟨n,hn⟩:=h.cpl u v hu hv
   exact⟨n+1,_,h0,.inl ⟨.inl rfl,by simpa using hn⟩⟩
  ·obtain⟨n,hn⟩:=hv
   exact⟨n+1,_,h0,.inr (.inl ⟨rfl,by simpa using hn⟩)⟩
theorem Zmu {c:Cd}{M N:Lg}{l:List Cd}{m:Nat}(hc:Mns c M)(h:MnL (fun a=>sqP l a m) m N)(hl:l=[]->∀ s,N s↔s=[]):MnL (fun a=>sqP (c::l) a m) m (cat M N):=fun L a hL=>by
 cases l with
 | nil=>exact (hc m L a hL).iff (fun s=>by
   rw [<- ZiK M s]
   constructor
   ·rintro⟨u,v,e,h1,h2⟩;exact⟨u,v,e,h1,(hl rfl v).2 h2⟩
   ·rintro⟨u,v,e,h1,h2⟩;exact⟨u,v,e,h1,(hl rfl v).1 h2⟩)
 | cons d r =>
  have h1:=hc (a+c.n) L a (Lies.left hL)
  have h2:=h L (a+c.n) (by have:=Lies.right hL;rwa [c.len] at this)
  exact h1.cat h2
theorem sq_nil (m:Nat):MnL (fun a=>sqP [] a m) m eps:=fun L a hL=>jump_mna (Lies.head hL)
inductive MnsL:List Cd->List Lg->Prop
 | nil:MnsL [] []
 | cons {c:Cd} {M:Lg} {l:List Cd} {Ms:List Lg}:Mns c M->MnsL l Ms->MnsL (c::l) (M::Ms)
theorem sq_mns:∀ {l:List Cd}{Ms:List Lg},MnsL l Ms->∀ m,MnL (fun a=>sqP l a m) m (sqM Ms)
 | _,_,.nil,m=>sq_nil m
 | _,_,.cons hc hl,m=>Zmu hc (sq_mns hl m) (fun e=>by subst e;cases hl;exact fun s=>Iff.rfl)
theorem ch_mns:∀ {l:List Cd}{Ms:List Lg},MnsL l Ms->∀ m,MnL (fun a=>chP l a m) m (orM Ms)
 | _,_,.nil,m=>fun L a hL=>by
  have h0:L[a]?=some ⟨1,noSet,(m:Int),0⟩:=Lies.head hL
  constructor
  ·intro k s hs
   cases k with
   | zero =>
    obtain⟨q,hq,hop,_⟩:=hs
    rw [h0] at hq;cases hq
    simp at hop
   | succ k =>
    obtain⟨q,hq,hh⟩:=hs
    rw [h0] at hq;cases hq
    rcases hh with⟨h1,_⟩|⟨h1,_⟩|⟨_,b,v,rfl,hb,hv⟩
    ·simp at h1
    ·simp at h1
    ·rw [inS_no] at hb;cases hb
  ·rintro u v ⟨M,hM,_⟩
   exact (List.not_mem_nil hM).elim
 | _,_,.cons (l:=[]) hc .nil,m=>fun L a hL=>(hc m L a hL).iff (fun s=>by simp [orM])
 | _,_,.cons (c:=c) (l:=d::r) (Ms:=_) hc hl,m=>fun L a hL=>by
  have h0:=Lies.head hL
  have h1:=Lies.tail hL
  have h2:=hc m L (a+1) (Lies.left h1)
  have h3:=ch_mns hl m L (a+1+c.n) (by have:=Lies.right h1;rwa [c.len] at this)
  exact (Zmt h0 h2 h3).iff (fun s=>by simp [orM])
theorem Zc7 (M:Lg):∀ (p q:Nat)(s:List Nat),ZkB M (p+q) s↔cat (ZkB M p) (ZkB M q) s
 | 0,q,s=>by rw [Nat.zero_add];exact⟨fun h=>⟨[],s,rfl,rfl,h⟩,fun ⟨u,v,e,h1,h2⟩=>by have h3:u=[]:=h1;subst h3;rw [e];exact h2⟩
 | p+1,q,s=>by
  rw [show p+1+q=(p+q)+1 by omega]
  show cat M (ZkB M (p+q)) s↔cat (cat M (ZkB M p)) (ZkB M q) s
  rw [Zhq]
  constructor
  ·rintro⟨u,v,e,h1,h2⟩;exact⟨u,v,e,h1,(Zc7 M p q v).1 h2⟩
  ·rintro⟨u,v,e,h1,h2⟩;exact⟨u,v,e,h1,(Zc7 M p q v).2 h2⟩
theorem lp_mns {c:Cd}{M:Lg}(hc:Mns c M):Mns (lp c) (star M):=fun m L a hL=>by
 have h0:L[a]?=some ⟨2,noSet,((a+1:Nat):Int),(m:Int)⟩:=Lies.head hL
 have h1:=hc a L (a+1) (Lies.tail hL)
 constructor
 ·intro k
  induction k using Nat.strongRecOn with
  | _ k ih =>
   intro s hs
   cases k with
   | zero =>
    obtain⟨q,hq,hop,_⟩:=hs
    rw [h0] at hq;cases hq
    simp at hop
   | succ k =>
    obtain⟨q,hq,hh⟩:=hs
    rw [h0] at hq;cases hq
    rcases hh with⟨_,hv⟩|⟨_,hv⟩|⟨h1,_⟩
    ·obtain⟨u,v,k',rfl,h2,h3,h4⟩:=h1.snd k s (by simpa using hv)
     obtain⟨u2,v2,k2,rfl,⟨r,hr⟩,h6,h7⟩:=ih k' (by omega) v h4
     exact⟨u++u2,v2,k2,by simp,⟨r+1,u,u2,rfl,h2,hr⟩,by omega,h7⟩
    ·exact⟨[],s,k,rfl,⟨0,rfl⟩,by omega,by simpa using hv⟩
    ·simp at h1
 ·rintro u v ⟨r,hr⟩ hv
  induction r generalizing u with
  | zero =>
   have e:u=[]:=hr
   subst e
   obtain⟨n,hn⟩:=hv
   exact⟨n+1,_,h0,.inr (.inl ⟨rfl,by simpa using hn⟩)⟩
  | succ r ih =>
   obtain⟨x,y,rfl,hx,hy⟩:=hr
   obtain⟨n,hn⟩:=h1.cpl x (y++v) hx (ih y hy)
   rw [List.append_assoc]
   exact⟨n+1,_,h0,.inl ⟨.inl rfl,by simpa using hn⟩⟩
theorem ZjI {c:Cd}{M:Lg}(hc:Mns c M)(m:Nat):∀ j,MnL (fun a=>sqP (List.replicate j (opt c m)) a m) m (upto M j)
 | 0=>fun L a hL=>(sq_nil m L a hL).iff (fun s=>⟨fun h=>⟨0,Nat.le_refl _,h⟩,fun ⟨r,hr,h⟩=>by
  obtain rfl:r=0:=by omega
  exact h⟩)
 | j+1=>fun L a hL=>by
  have key:∀ b,MnA L (a+1) b M->MnA L b m (upto M j)->L[a]?=some ⟨2,noSet,((a+1:Nat):Int),(m:Int)⟩->MnA L a m (upto M (j+1)):=fun b h1 h2 h0 =>
   (Zhr h0 (h1.cat h2)).iff (fun s=>by
    constructor
    ·rintro (⟨u,v,e,hu,r,hr,hv⟩|rfl)
     ·exact⟨r+1,by omega,u,v,e,hu,hv⟩
     ·exact⟨0,by omega,rfl⟩
    ·rintro⟨r,hr,hs⟩
     cases r with
     | zero=>exact .inr hs
     | succ r=>obtain⟨u,v,e,hu,hv⟩:=hs;exact .inl ⟨u,v,e,hu,r,by omega,hv⟩)
  cases j with
  | zero =>
   have hL':Lies L a ((opt c m).put a m):=hL
   have h1:=hc m L (a+1) (Lies.tail hL')
   refine (Zhr (Lies.head hL') h1).iff (fun s=>?_)
   constructor
   ·rintro (h|rfl)
    ·exact⟨1,by omega,(ZiK M s).2 h⟩
    ·exact⟨0,by omega,rfl⟩
   ·rintro⟨r,hr,hs⟩
    rcases (show r=0\/r=1 by omega) with rfl|rfl
    ·exact .inr hs
    ·exact .inl ((ZiK M s).1 hs)
  | succ j =>
   have hL':Lies L a ((opt c m).put a (a+(opt c m).n)++sqP (List.replicate (j+1) (opt c m)) (a+(opt c m).n) m):=hL
   have h1:=hc (a+(opt c m).n) L (a+1) (Lies.tail (Lies.left hL'))
   have h2:=ZjI hc m (j+1) L (a+(opt c m).n) (by have:=Lies.right hL';rwa [(opt c m).len] at this)
   exact key _ h1 h2 (Lies.head (Lies.left hL'))
theorem ZiL {c:Cd}{M N:Lg}(hc:Mns c M){m:Nat}{tail:List Cd}(ht:MnL (fun a=>sqP tail a m) m N)(he:tail=[]->∀ s,N s↔s=[]):∀ p,MnL (fun a=>sqP (List.replicate p c++tail) a m) m (cat (ZkB M p) N)
 | 0=>fun L a hL=>(ht L a (by simpa using hL)).iff (fun s=>⟨fun h=>⟨[],s,rfl,rfl,h⟩,fun ⟨u,v,e,h1,h2⟩=>by have h3:u=[]:=h1;subst h3;rw [e];exact h2⟩)
 | p+1=>fun L a hL=>by
  have h1:=Zmu hc (ZiL hc ht he p) (fun e s=>by
   have e2:=List.append_eq_nil_iff.1 e
   obtain rfl:p=0:=by simpa using e2.1
   constructor
   ·rintro⟨u,v,e3,h1,h2⟩
    have h3:u=[]:=h1
    subst h3
    rw [e3,(he e2.2 v).1 h2]
    rfl
   ·rintro rfl
    exact⟨[],[],rfl,rfl,(he e2.2 []).2 rfl⟩) L a (by simpa [List.replicate_succ] using hL)
  exact h1.iff (fun s=>(Zhq M (ZkB M p) N s).symm)
theorem rp_mns {c:Cd}{M:Lg}(hc:Mns c M)(mn:Nat)(mx:Int)(h:mx=-1\/(mn:Int)<=mx):Mns (rp c mn mx) (repM M mn mx):=fun m L a hL=>by
 have hL':Lies L a (sqP (rpL c mn mx m) a m):=hL
 unfold rpL at hL'
 by_cases hm:mx=-1
 ·rw [if_pos hm] at hL'
  have ht:MnL (fun a=>sqP [lp c] a m) m (star M):=fun L a hL=>lp_mns hc m L a hL
  refine (ZiL hc ht (fun e=>by cases e) mn L a hL').iff (fun s=>?_)
  constructor
  ·rintro⟨u,v,e,h1,r,h2⟩
   exact⟨mn+r,by omega,.inl hm,(Zc7 M mn r s).2 ⟨u,v,e,h1,h2⟩⟩
  ·rintro⟨r,h1,_,h2⟩
   obtain⟨d,rfl⟩:∃ d,r=mn+d:=⟨r - mn,by omega⟩
   obtain⟨u,v,e,h3,h4⟩:=(Zc7 M mn d s).1 h2
   exact⟨u,v,e,h3,d,h4⟩
 ·rw [if_neg hm] at hL'
  have h2:(mn:Int)<=mx:=by omega
  refine (ZiL hc (ZjI hc m (mx.toNat - mn)) (fun e s=>?_) mn L a hL').iff (fun s=>?_)
  ·have e0:mx.toNat - mn=0:=by simpa using e
   rw [e0]
   constructor
   ·rintro⟨r,hr,h⟩
    obtain rfl:r=0:=by omega
    exact h
   ·rintro rfl
    exact⟨0,Nat.le_refl _,rfl⟩
  ·constructor
   ·rintro⟨u,v,e,h1,r,hr,h3⟩
    exact⟨mn+r,by omega,.inr (by omega),(Zc7 M mn r s).2 ⟨u,v,e,h1,h3⟩⟩
   ·rintro⟨r,h1,h3,h4⟩
    obtain⟨d,rfl⟩:∃ d,r=mn+d:=⟨r - mn,by omega⟩
    obtain⟨u,v,e,h5,h6⟩:=(Zc7 M mn d s).1 h4
    exact⟨u,v,e,h5,d,by omega,h6⟩
theorem Zmv (n:Nd){l:List Cd}{Ms:List Lg}(h:Zdv n l.length)(hl:MnsL l Ms):Mns (cdN n l) (meN n Ms):=by
 unfold cdN meN
 split
 ·exact sgl_mns _
 ·split
  ·rename_i h4
   obtain⟨h1,h2⟩:=h.2.1 h4
   cases hl with
   | nil=>simp at h1
   | cons hc hr =>
    refine rp_mns hc _ _ ?_
    unfold arT at h2
    simp only [Bool.and_eq_true,Bool.or_eq_true,decide_eq_true_eq] at h2
    omega
  ·split
   ·exact fun m=>ch_mns hl m
   ·exact fun m=>sq_mns hl m
theorem Zmw:∀ f:Fo,f.fit->MnsL f.cds f.mes
 | .nil,_=>.nil
 | .cons n k r,⟨h1,h2,h3⟩=>.cons (Zmv n (by rw [Fo.cds_len];exact h1) (Zmw k h2)) (Zmw r h3)
theorem cdT_mns (t:Tr)(h:ZcF t):Mns (cdT t) (meT t):=Zmv t.1 (by rw [Fo.cds_len];exact h.1) (Zmw t.2 h.2)
theorem prg_acc (t:Tr)(h:ZcF t)(s:List Nat):Acc ((prg t).put 0 0) 0 s↔meT t s:=by
 have e:=Zf4 t
 have hl:Lies ((prg t).put 0 0) 0 ((cdT t).put 0 (cdT t).n++[⟨3,noSet,0,0⟩]):=fun k i hk=>by rw [e,Nat.zero_add];exact hk
 have hend:((prg t).put 0 0)[(cdT t).n]?=some ⟨3,noSet,0,0⟩:=by
  have:=Lies.head (Lies.right hl)
  rwa [(cdT t).len,Nat.zero_add] at this
 have H:=cdT_mns t h (cdT t).n _ 0 (Lies.left hl)
 constructor
 ·rintro⟨k,hk⟩
  obtain⟨u,v,k',rfl,h1,_,h2⟩:=H.snd k s hk
  cases k' with
  | zero =>
   obtain⟨_,_,_,rfl⟩:=h2
   rw [List.append_nil];exact h1
  | succ k' =>
   obtain⟨q,hq,hh⟩:=h2
   rw [hend] at hq;cases hq
   simp at hh
 ·intro hs
  have:=H.cpl s [] hs ⟨0,_,hend,rfl,rfl⟩
  rwa [List.append_nil] at this
inductive Eps (L:List Ins):Nat->Nat->Prop
 | refl (i:Nat):Eps L i i
 | goX {i j:Nat} {q:Ins}:Eps L i j->L[j]?=some q->(q.op=2\/q.op=4)->Eps L i q.x.toNat
 | goY {i j:Nat} {q:Ins}:Eps L i j->L[j]?=some q->q.op=2->Eps L i q.y.toNat
abbrev Sn:=Nat->Prop
def Clsd (L:List Ins)(S:Sn):Prop:=∀ i q,S i->L[i]?=some q->((q.op=2\/q.op=4)->S q.x.toNat)/\(q.op=2->S q.y.toNat)
theorem Clsd.eps {L:List Ins}{S:Sn}(h:Clsd L S){i j:Nat}(hi:S i)(e:Eps L i j):S j:=by
 induction e with
 | refl=>exact hi
 | goX _ h1 h2 ih=>exact (h _ _ ih h1).1 h2
 | goY _ h1 h2 ih=>exact (h _ _ ih h1).2 h2
theorem eps_clsd (L:List Ins)(i:Nat):Clsd L (Eps L i):=fun j q hj hq=>⟨fun h=>hj.goX hq h,fun h=>hj.goY hq h⟩
def nxt (L:List Ins)(S:Sn)(b:Nat):Sn:=fun j=>∃ i q,S i/\L[i]?=some q/\q.op=1/\inS q.s b=true/\Eps L q.x.toNat j
theorem nxt_clsd (L:List Ins)(S:Sn)(b:Nat):Clsd L (nxt L S b):=fun j q ⟨i,p,h1,h2,h3,h4,h5⟩ hq=>⟨fun h=>⟨i,p,h1,h2,h3,h4,h5.goX hq h⟩,fun h=>⟨i,p,h1,h2,h3,h4,h5.goY hq h⟩⟩
def accS (L:List Ins)(S:Sn):Prop:=∃ i q,S i/\L[i]?=some q/\q.op=3
def stn (L:List Ins)(s:List Nat):Sn:=s.foldl (nxt L) (Eps L 0)
theorem ZjJ (L:List Ins)(s:List Nat)(b:Nat):stn L (s++[b])=nxt L (stn L s) b:=by simp [stn]
theorem Zmx {L:List Ins}{i j:Nat}{s:List Nat}(e:Eps L i j)(h:Acc L j s):Acc L i s:=by
 induction e with
 | refl=>exact h
 | goX _ h1 h2 ih=>obtain⟨k,hk⟩:=h;exact ih ⟨k+1,_,h1,.inl ⟨h2,hk⟩⟩
 | goY _ h1 h2 ih=>obtain⟨k,hk⟩:=h;exact ih ⟨k+1,_,h1,.inr (.inl ⟨h2,hk⟩)⟩
theorem Zgk {L:List Ins}{S:Sn}(hS:Clsd L S){b:Nat}{s:List Nat}:∀ k i,S i->AccN L k i (b::s)->∃ j,nxt L S b j/\Acc L j s
 | 0,i,_,⟨_,_,_,h⟩=>by cases h
 | k+1,i,hi,⟨q,hq,h⟩=>by
  rcases h with⟨h1,h2⟩|⟨h1,h2⟩|⟨h1,b',v,e,h2,h3⟩
  ·exact Zgk hS k _ ((hS i q hi hq).1 h1) h2
  ·exact Zgk hS k _ ((hS i q hi hq).2 h1) h2
  ·cases e
   exact⟨q.x.toNat,⟨i,q,hi,hq,h1,h2,.refl _⟩,k,h3⟩
theorem Zgl {L:List Ins}{S:Sn}(hS:Clsd L S):∀ k i,S i->AccN L k i []->accS L S
 | 0,i,hi,⟨q,hq,h,_⟩=>⟨i,q,hi,hq,h⟩
 | k+1,i,hi,⟨q,hq,h⟩=>by
  rcases h with⟨h1,h2⟩|⟨h1,h2⟩|⟨h1,b',v,e,h2,h3⟩
  ·exact Zgl hS k _ ((hS i q hi hq).1 h1) h2
  ·exact Zgl hS k _ ((hS i q hi hq).2 h1) h2
  ·cases e
theorem Zhs (L:List Ins):∀ (s:List Nat)(S:Sn),Clsd L S->(accS L (s.foldl (nxt L) S)↔∃ i,S i/\Acc L i s)
 | [],S,hS=>⟨fun ⟨i,q,h1,h2,h3⟩=>⟨i,h1,0,q,h2,h3,rfl⟩,fun ⟨i,hi,k,hk⟩=>Zgl hS k i hi hk⟩
 | b::s,S,hS=>by
  rw [List.foldl_cons,Zhs L s _ (nxt_clsd L S b)]
  constructor
  ·rintro⟨j,⟨i,q,h1,h2,h3,h4,h5⟩,hj⟩
   obtain⟨k,hk⟩:=Zmx h5 hj
   exact⟨i,h1,k+1,q,h2,.inr (.inr ⟨h3,b,s,rfl,h4,hk⟩)⟩
  ·rintro⟨i,hi,k,hk⟩
   exact Zgk hS k i hi hk
theorem stn_acc (L:List Ins)(s:List Nat):accS L (stn L s)↔Acc L 0 s:=by
 unfold stn
 rw [Zhs L s _ (eps_clsd L 0)]
 exact⟨fun ⟨i,hi,h⟩=>Zmx hi h,fun h=>⟨0,.refl 0,h⟩⟩
theorem nxt_dead {L:List Ins}{S:Sn}(h:∀ j,¬ S j)(b:Nat):∀ j,¬ nxt L S b j:=fun j ⟨i,_,h1,_⟩=>h i h1
theorem Zht {L:List Ins}:∀ (s:List Nat)(S:Sn),(∀ j,¬ S j)->∀ j,¬ s.foldl (nxt L) S j
 | [],S,h=>h
 | b::s,S,h=>Zht s _ (nxt_dead h b)
end
section
open Go.RowKit Go.Shelf
attribute [local go_sem] Oper.semAt_some
def encO (n:Nat):Array Value:=#[.int .i64 (n:Int)]
def onw (q:Ins):List Nat:=if q.op=2 then [q.x.toNat,q.y.toNat] else if q.op=4 then [q.x.toNat] else []
theorem ld131 {w:World}{ad:Addr}{v:Value}(h:w.cell? ad=some v):(loadVar 233 ad).run Tryz.prog w=.ok v w:=by
 have ha:∀ w,(isAgg 233).run Tryz.prog w=.ok false w:=fun w=>by kernel_rfl
 simp [loadVar,ha,go_sem,h]
theorem Zmy (n:Nat)(ad:Addr)(w:World):CallsIn Fence.wide n Tryz.prog 166 #[.pointer (some ad)] w fun e w'=>∃ g,e=.returned (.func (.func 210) #[] #[.pointer (some ⟨g,0,none⟩)])/\w'.heap[g]?=some (.cells #[.pointer (some ad)] 233 (0,0))/\Below w.heap.size w w'/\w.heap.size<=g:=by
 have hmf:∀ (fn:Fn) (first cap:Array Value) (w:World),(Instr.makeFunc fn first cap).run Tryz.prog w=.ok (.func fn first cap) w:=fun _ _ _ _=>rfl
 refine callsIn_of_wp Tryz.func166 rfl trivial ?_ rfl
 simp only [Tryz.ntmps166,List.size_toArray,List.length_cons,List.length_nil,Nat.reduceAdd,Nat.reduceSub,Array.replicate_succ,Array.replicate_zero,List.push_toArray,List.append_toArray,List.nil_append,List.cons_append]
 gi_wp2
 go_ret
 exact⟨_,rfl,heap_alloc_new w _,(Below.refl _ w).alloc (Nat.le_refl _) _,Nat.le_refl _⟩
set_option maxRecDepth 100000 in
theorem Zhu (B0:Nat)(X:Nat->Prop)(n:Nat)(B b o:Nat)(q:Ins)(w:World)(hBb:w.heap[B]?=some (.cells #[.pointer (some ⟨b,o,none⟩)] 233 (0,0)))(hI:∀ j u,(Zcf q)[j]?=some u->w.cell? ⟨b,o+j,none⟩=some u)(hb:b<B0/\¬ X b)(hB:B<B0/\¬ X B)(hx:(q.op=2\/q.op=4)->0<=q.x)(hy:q.op=2->0<=q.y) :
  SeqStopsK Fence.wide n Tryz.prog 210 #[.pointer (some ⟨B,0,none⟩)] encO (KO B0 X) (fun xs=>xs=onw q) (fun _=>True) 2 w:=fun l J Jx V hV hAJ hAJx hYY h0=>by
 have hBl:B<w.heap.size:=(Array.getElem?_eq_some_iff.1 hBb).1
 have hcell:∀ W',KO B0 X V W'->∀ j u,(Zcf q)[j]?=some u->W'.cell? ⟨b,o+j,none⟩=some u:=fun W' hk j u hj=>by
  have hbl:=World.block_lt_of_cell? w _ (hI j u hj)
  have hbV:=World.block_lt_of_cell? V _ ((hV.cell (p:=⟨b,o+j,none⟩) hbl).trans (hI j u hj))
  exact (World.cell?_of_block ((hk.2 b hb.1 hbV hb.2).trans (hV.block b hbl))).trans (hI j u hj)
 have hbox:∀ W',KO B0 X V W'->W'.cell? ⟨B,0,none⟩=some (.pointer (some ⟨b,o,none⟩)):=fun W' hk=>by
  have hBV:=(hV.block B hBl).trans hBb
  exact Zal ((hk.2 B hB.1 (by have:=hV.size;omega) hB.2).trans hBV) 0 rfl
 have cB:=hbox V (KO.refl _ _ _)
 have c0:=hcell V (KO.refl _ _ _) 0 (.int .i64 q.op) rfl
 have c5:=hcell V (KO.refl _ _ _) 5 (.int .i64 q.x) rfl
 rw [Nat.add_zero] at c0
 replace hYY:Hid _:=Zaa hYY
 replace h0:=Zaa h0
 replace hcell:=Zaa hcell
 replace hbox:=Zaa hbox
 clear hV hBb hI hBl
 show CallsIn Fence.wide n Tryz.prog 210 #[.func (.yield l) #[] #[],.pointer (some ⟨B,0,none⟩)] V _
 by_cases h2:q.op=2
 ·have hx0:=hx (.inl h2)
  have hy0:=hy h2
  obtain⟨xn,hxn⟩:∃ xn:Nat,q.x=(xn:Int):=⟨q.x.toNat,by omega⟩
  obtain⟨yn,hyn⟩:∃ yn:Nat,q.y=(yn:Int):=⟨q.y.toNat,by omega⟩
  have hon:Hid (onw q=[xn,yn]):=by
   show _=_
   unfold onw
   rw [if_pos h2,hxn,hyn];rfl
  rw [h2] at c0
  rw [hxn] at c5
  obtain⟨fn,tmps,assign,body,hy,hR⟩:=hYY.out [] xn V h0.out (by decide)
  simp only [encO] at hy
  clear hx hx0 hy0
  refine callsIn_of_wp Tryz.func210 rfl trivial ?_ rfl
  simp only [Tryz.ntmps210,List.size_toArray,List.length_cons,List.length_nil,Nat.reduceAdd,Nat.reduceSub,Array.replicate_succ,Array.replicate_zero,List.push_toArray,List.append_toArray,List.nil_append,List.cons_append]
  gi_wp2_with (first|((with_reducible refine Zah 233 ?_);refine Zai 233 Zad rfl (ld131 cB) ?_))
  refine⟨fun h=>(by cases h),hR.mono ?_⟩
  clear hy hR
  rintro e W5 (⟨rfl,hJ5,hk5⟩|⟨rfl,hJx5⟩)
  ·have cB5:=hbox.out W5 hk5
   have c6:=hcell.out W5 hk5 6 (.int .i64 q.y) rfl
   rw [hyn] at c6
   obtain⟨fn,tmps,assign,body,hy,hR⟩:=hYY.out [xn] yn W5 hJ5 (by simp)
   simp only [encO] at hy
   replace hk5:=Zaa hk5
   replace hJ5:=Zaa hJ5
   clear cB c0 c5
   gi_wp2_with (first|((with_reducible refine Zah 233 ?_);refine Zai 233 Zad rfl (ld131 cB5) ?_))
   refine⟨fun h=>(by cases h),hR.mono ?_⟩
   clear hy hR
   rintro e W6 (⟨rfl,hJ6,hk6⟩|⟨rfl,hJx6⟩)
   ·replace hJ6:=Zaa hJ6
    clear hk6
    gi_wp2
    go_end0
    exact⟨⟨_,rfl⟩,.inl ⟨_,hon.out.symm,hJ6.out⟩⟩
   ·replace hJx6:=Zaa hJx6
    gi_wp2
    go_end0
    exact⟨⟨_,rfl⟩,.inr ⟨_,trivial,hJx6.out⟩⟩
  ·replace hJx5:=Zaa hJx5
   gi_wp2
   go_end0
   exact⟨⟨_,rfl⟩,.inr ⟨_,trivial,hJx5.out⟩⟩
 ·have n2:(q.op == 2)=false:=by simpa using h2
  by_cases h4:q.op=4
  ·have hx0:=hx (.inr h4)
   obtain⟨xn,hxn⟩:∃ xn:Nat,q.x=(xn:Int):=⟨q.x.toNat,by omega⟩
   have hon:Hid (onw q=[xn]):=by
    show _=_
    unfold onw
    rw [if_neg h2,if_pos h4,hxn];rfl
   rw [h4] at c0
   rw [hxn] at c5
   obtain⟨fn,tmps,assign,body,hy,hR⟩:=hYY.out [] xn V h0.out (by decide)
   simp only [encO] at hy
   clear hx hx0 n2 h2
   refine callsIn_of_wp Tryz.func210 rfl trivial ?_ rfl
   simp only [Tryz.ntmps210,List.size_toArray,List.length_cons,List.length_nil,Nat.reduceAdd,Nat.reduceSub,Array.replicate_succ,Array.replicate_zero,List.push_toArray,List.append_toArray,List.nil_append,List.cons_append]
   gi_wp2_with (first|((with_reducible refine Zah 233 ?_);refine Zai 233 Zad rfl (ld131 cB) ?_))
   refine⟨fun h=>(by cases h),hR.mono ?_⟩
   clear hy hR
   rintro e W6 (⟨rfl,hJ6,hk6⟩|⟨rfl,hJx6⟩)
   ·replace hJ6:=Zaa hJ6
    clear hk6
    gi_wp2
    go_end0
    exact⟨⟨_,rfl⟩,.inl ⟨_,hon.out.symm,hJ6.out⟩⟩
   ·replace hJx6:=Zaa hJx6
    gi_wp2
    go_end0
    exact⟨⟨_,rfl⟩,.inr ⟨_,trivial,hJx6.out⟩⟩
  ·have n4:(q.op == 4)=false:=by simpa using h4
   have hon:Hid (onw q=[]):=by
    show _=_
    unfold onw
    rw [if_neg h2,if_neg h4]
   replace h2:=Zaa h2
   replace h4:=Zaa h4
   clear hx
   refine callsIn_of_wp Tryz.func210 rfl trivial ?_ rfl
   simp only [Tryz.ntmps210,List.size_toArray,List.length_cons,List.length_nil,Nat.reduceAdd,Nat.reduceSub,Array.replicate_succ,Array.replicate_zero,List.push_toArray,List.append_toArray,List.nil_append,List.cons_append]
   gi_wp2_with (first|((with_reducible refine Zah 233 ?_);refine Zai 233 Zad rfl (ld131 cB) ?_))
   go_end0
   exact⟨⟨_,rfl⟩,.inl ⟨_,hon.out.symm,h0.out⟩⟩
end
section
open Go.RowKit
def snW (W:List Nat):Sn:=fun m=>inW W m=true
theorem Zfz {p p':Nat->Bool}{n:Nat}(h:p n=false)(h':∀ m,p' m=(decide (m=n) || p m)):∀ N,(List.range N).countP p'=(List.range N).countP p+if n<N then 1 else 0
 | 0=>by simp
 | N+1=>by
  rw [List.range_succ,List.countP_append,List.countP_append,Zfz h h' N,List.countP_singleton,List.countP_singleton,h' N]
  by_cases e:N=n
  ·subst e;simp [h]
  ·have e2:(decide (N=n) || p N)=p N:=by simp [e]
   rw [e2]
   by_cases hn:n<N
   ·have:n<N+1:=by omega
    simp [hn,this];omega
   ·have:¬ n<N+1:=by omega
    simp [hn,this]
def cW (W:List Nat):Nat:=(List.range 2048).countP (inW W)
theorem cW_le (W:List Nat):cW W<=2048:=by
 have:=List.countP_le_length (p:=inW W) (l:=List.range 2048)
 simpa [cW] using this
theorem cW_add {W:List Nat}(h:OkW W){n:Nat}(hn:n<2048)(hi:inW W n=false):cW (Zgj W n)=cW W+1:=by
 unfold cW
 rw [Zfz hi (fun m=>Zmn h hn m),if_pos hn]
theorem onw_mem {L:List Ins}{i:Nat}{q:Ins}(h:L[i]?=some q){z:Nat}(hz:z ∈ onw q){num:Nat}(e:Eps L num i):Eps L num z:=by
 unfold onw at hz
 split at hz
 ·rename_i h2
  rcases List.mem_cons.1 hz with rfl|hz
  ·exact e.goX h (.inl h2)
  ·rw [List.mem_singleton.1 hz];exact e.goY h h2
 ·split at hz
  ·rename_i h4
   rw [List.mem_singleton.1 hz];exact e.goX h (.inr h4)
  ·cases hz
theorem Zmz (q:Ins):(onw q).length<=2:=by unfold onw;split <;> (try split) <;> simp
theorem clsd_onw {L:List Ins}{S:Sn}(h:∀ i q,S i->L[i]?=some q->∀ z ∈ onw q,S z):Clsd L S:=fun i q hi hq=>by
 have:=h i q hi hq
 unfold onw at this
 refine⟨fun ho=>?_,fun ho=>?_⟩
 ·rcases ho with ho|ho
  ·rw [if_pos ho] at this;exact this _ (by simp)
  ·rw [if_neg (by omega),if_pos ho] at this;exact this _ (by simp)
 ·rw [if_pos ho] at this;exact this _ (by simp)
theorem onw_clsd {L:List Ins}{S:Sn}(h:Clsd L S){i:Nat}{q:Ins}(hi:S i)(hq:L[i]?=some q):∀ z ∈ onw q,S z:=fun z hz=>by
 have:=h i q hi hq
 unfold onw at hz
 split at hz
 ·rename_i h2
  rcases List.mem_cons.1 hz with rfl|hz
  ·exact this.1 (.inl h2)
  ·rw [List.mem_singleton.1 hz];exact this.2 h2
 ·split at hz
  ·rename_i h4
   rw [List.mem_singleton.1 hz];exact this.1 (.inr h4)
  ·cases hz
def GoL (L:List Ins):Prop:=∀ q ∈ L,((q.op=2\/q.op=4\/q.op=1)->0<=q.x/\q.x<(L.length:Int))/\(q.op=2->0<=q.y/\q.y<(L.length:Int))
theorem GoL.onw {L:List Ins}(h:GoL L){i:Nat}{q:Ins}(hq:L[i]?=some q):∀ z ∈ onw q,z<L.length:=fun z hz=>by
 have:=h q (List.mem_of_getElem? hq)
 unfold Go.Proofs.YtnffbmipllhjdaaGreatDoor.onw at hz
 split at hz
 ·rename_i h2
  rcases List.mem_cons.1 hz with rfl|hz
  ·have:=this.1 (.inl h2);omega
  ·rw [List.mem_singleton.1 hz];have:=this.2 h2;omega
 ·split at hz
  ·rename_i h4
   rw [List.mem_singleton.1 hz];have:=this.1 (.inr (.inl h4));omega
  ·cases hz
structure SdI (L:List Ins) (W0 W:List Nat) (q:List Nat) (num:Nat):Prop where
 ok:OkW W
 qlt:∀ z ∈ q,z<L.length/\Eps L num z
 mono:∀ m,inW W0 m=true->inW W m=true
 sound:∀ m,inW W m=true->inW W0 m=true\/Eps L num m
 nm:num ∈ q\/inW W num=true
 cl:∀ i x,inW W i=true->¬ inW W0 i=true->L[i]?=some x->∀ z ∈ onw x,z ∈ q\/inW W z=true
 cnt:q.length<=1+2 * cW W
theorem SdI.start {L:List Ins}{W0:List Nat}(h:OkW W0){num:Nat}(hn:num<L.length):SdI L W0 W0 [num] num :=
 ⟨h,fun z hz=>by rw [List.mem_singleton.1 hz];exact⟨hn,.refl _⟩,fun _ h=>h,fun _ h=>.inl h,.inl (by simp),fun i x h1 h2=>(h2 h1).elim,by simp⟩
theorem SdI.old {L:List Ins}{W0 W:List Nat}{q:List Nat}{z num:Nat}(h:SdI L W0 W (q++[z]) num)(hz:inW W z=true):SdI L W0 W q num:=by
 have sub:∀ m,m ∈ q++[z]\/inW W m=true->m ∈ q\/inW W m=true:=fun m hm=>by
  rcases hm with hm|hm
  ·rcases List.mem_append.1 hm with hm|hm
   ·exact .inl hm
   ·rw [List.mem_singleton.1 hm];exact .inr hz
  ·exact .inr hm
 refine⟨h.ok,fun y hy=>h.qlt y (by simp [hy]),h.mono,h.sound,sub _ h.nm,fun i x h1 h2 h3 y hy=>sub _ (h.cl i x h1 h2 h3 y hy),?_⟩
 have:=h.cnt
 simp at this
 omega
theorem SdI.new {L:List Ins}{W0 W:List Nat}{q:List Nat}{z num:Nat}{x:Ins}(h:SdI L W0 W (q++[z]) num)(hz:inW W z=false)(hl:L.length<=2048)(hg:GoL L)(hx:L[z]?=some x):SdI L W0 (Zgj W z) (q++onw x) num:=by
 have hz1:=h.qlt z (by simp)
 have hz2:z<2048:=by omega
 have hin:=Zmn h.ok hz2
 have hc:=cW_add h.ok hz2 hz
 have sub:∀ m,m ∈ q++[z]\/inW W m=true->m ∈ q++onw x\/inW (Zgj W z) m=true:=fun m hm=>by
  rcases hm with hm|hm
  ·rcases List.mem_append.1 hm with hm|hm
   ·exact .inl (by simp [hm])
   ·rw [List.mem_singleton.1 hm];right;rw [hin];simp
  ·right;rw [hin,hm];simp
 refine⟨h.ok.add hz2,fun y hy=>?_,fun m hm=>by rw [hin,h.mono m hm];simp,fun m hm=>?_,sub _ h.nm,fun i y h1 h2 h3 u hu=>?_,?_⟩
 ·rcases List.mem_append.1 hy with hy|hy
  ·exact h.qlt y (by simp [hy])
  ·exact⟨hg.onw hx y hy,onw_mem hx hy hz1.2⟩
 ·rw [hin] at hm
  by_cases e:m=z
  ·subst e;exact .inr hz1.2
  ·simp [e] at hm;exact h.sound m hm
 ·by_cases e:i=z
  ·subst e
   rw [hx] at h3;cases h3
   exact .inl (by simp [hu])
  ·rw [hin] at h1
   simp [e] at h1
   exact sub _ (h.cl i y h1 h2 h3 u hu)
 ·have h1:=h.cnt
  have h2:=Zmz x
  simp at h1 ⊢
  omega
theorem SdI.fin {L:List Ins}{W0 W:List Nat}{num:Nat}(h:SdI L W0 W [] num)(hc:Clsd L (snW W0))(m:Nat):inW W m=true↔inW W0 m=true\/Eps L num m:=by
 have hn:inW W num=true:=by rcases h.nm with h|h;cases h;exact h
 have hW:Clsd L (snW W):=clsd_onw (fun i q hi hq z hz=>by
  by_cases h0:inW W0 i=true
  ·exact h.mono _ (onw_clsd hc h0 hq z hz)
  ·rcases h.cl i q hi h0 hq z hz with h|h
   ·cases h
   ·exact h)
 exact⟨h.sound m,fun hm=>by
  rcases hm with hm|hm
  ·exact h.mono m hm
  ·exact hW.eps hn hm⟩
theorem SdI.room {L:List Ins}{W0 W:List Nat}{q:List Nat}{num:Nat}(h:SdI L W0 W q num):q.length<=4097:=by
 have:=h.cnt
 have:=cW_le W
 omega
def msr (W:List Nat)(q:List Nat):Nat:=3 * (2048 - cW W)+q.length
theorem msr_old (W:List Nat)(q:List Nat)(z:Nat):msr W q<msr W (q++[z]):=by unfold msr;simp
theorem msr_new {W:List Nat}(h:OkW W){z:Nat}(hz:z<2048)(hi:inW W z=false)(q:List Nat)(x:Ins):msr (Zgj W z) (q++onw x)<msr W (q++[z]):=by
 have h1:=cW_add h hz hi
 have h2:=cW_le (Zgj W z)
 have h3:=Zmz x
 unfold msr
 simp
 omega
theorem ZkC {F:Fence}{n:Nat}{P:Program}{Q:Exit->Act->World->Prop}{a:Act}{w:World}{c:Code}(I:Nat->Act->World->Prop){m0:Nat}(h0:I m0 a w)
  (round:∀ m a w,I m a w->c.wpIn F n P (Exit.then (fun a' w'=>∃ m',m'<m/\I m' a' w') Q) a w):(Code.loop c).wpIn F n P Q a w:=by
 classical
 have lst:∀ (p:Nat->Prop),(∃ m,p m)->∃ m,p m/\∀ k,p k->m<=k:=fun p hp=>by
  obtain⟨m,hm⟩:=hp
  induction m using Nat.strongRecOn with
  | _ m ih =>
   by_cases h:∃ k,k<m/\p k
   ·obtain⟨k,h1,h2⟩:=h;exact ih k h1 h2
   ·exact⟨m,hm,fun k hk=>by
     rcases Nat.lt_or_ge k m with h1|h1
     ·exact (h ⟨k,h1,hk⟩).elim
     ·exact h1⟩
 let μ:Act->World->Nat:=fun a w=>if h:∃ m,I m a w then (lst _ h).choose else 0
 have hμ:∀ a w (h:∃ m,I m a w),I (μ a w) a w/\∀ k,I k a w->μ a w<=k:=fun a w h=>by
  have e:μ a w=(lst _ h).choose:=dif_pos h
  rw [e]
  exact (lst _ h).choose_spec
 refine wpIn_loop (fun a w=>∃ m,I m a w) μ ⟨m0,h0⟩ (fun a w hI=>?_)
 refine Code.wpIn_mono ?_ (round (μ a w) a w (hμ a w hI).1)
 intro e a' w' h
 cases e with
 | normal =>
  obtain⟨m',h1,h2⟩:=h
  exact⟨⟨m',h2⟩,Nat.lt_of_le_of_lt ((hμ a' w' ⟨m',h2⟩).2 m' h2) h1⟩
 | _=>exact h
def marks (ds:List Nat):List Deferred:=ds.map (fun D=>{ target:=.collected D,args:=#[] })
theorem Zef {F:Fence}{n:Nat}{P:Program}{fn:Func}{tmps:Array Value}{R:Ending->World->Prop}:∀ (ds:List Nat)(w:World),ds.Nodup->(∀ D ∈ ds,w.heap[D]?=some (.deferred (some []))) ->
  (∀ w':World,w.heap.size<=w'.heap.size->w'.os=w.os->w'.tape=w.tape->w'.output=w.output->(∀ k,k ∉ ds->w'.heap[k]?=w.heap[k]?)->LeavesInM F n P fn tmps R [] .returning w')->LeavesInM F n P fn tmps R (marks ds) .returning w
 | [],w,_,_,h=>h w (Nat.le_refl _) rfl rfl rfl (fun _ _=>rfl)
 | D::ds,w,hn,hd,h=>by
  obtain⟨h1,h2⟩:=List.nodup_cons.1 hn
  have hD:=hd D (by simp)
  refine⟨by simp,.inl ⟨D,_,rfl,run_takeDeferred hD,Zef ds _ h2 (fun E hE=>?_) (fun w' s1 s2 s3 s4 s5=>h w' (by simpa [World.putObj] using s1) s2 s3 s4 (fun k hk=>?_))⟩⟩
  ·rw [World.putObj_heap_other (fun e=>h1 (by rw [<- e];exact hE))]
   exact hd E (by simp [hE])
  ·have:k ∉ ds/\k≠D:=by simp at hk;exact⟨hk.2,hk.1⟩
   rw [s5 k this.1,World.putObj_heap_other this.2]
end
section
open Go.RowKit
structure QuP (v:Value) (g:Nat) (cur:Array Value) (q:List Int):Prop where
 ex:∃ o c,v=.slice (some ⟨g,o,none⟩) q.length c/\o+c<=cur.size/\q.length<=c/\∀ i z,q[i]?=some z->cur[o+i]?=some (.int .i64 z)
theorem info3:∃ i,Tryz.prog.info? 3=some i/\i.zero=some (.int .i64 0)/\i.size=1/\i.bytes=8:=by
 have h:(Tryz.prog.info? 3).map (fun i=>(i.zero,i.size,i.bytes))=some (some (.int .i64 0),1,8):=by kernel_rfl
 cases hi:Tryz.prog.info? 3 with
 | none=>rw [hi] at h;cases h
 | some i =>
  rw [hi] at h
  simp only [Option.map_some,Option.some.injEq,Prod.mk.injEq] at h
  exact⟨i,rfl,h.1,h.2.1,h.2.2⟩
theorem Zgm {n c:Nat}(h:c<n)(hn:n<=100000):Builtin.nextslicecap n c * 8<=281474976710656:=growslice_fits h (by omega)
theorem run_push {S:Nat->Prop}{w0 w:World}{g gs:Nat}{cur xs:Array Value}{ts:TypeId}{v:Value}{q:List Int}(H:St S w0 w [(true,g,3,cur),(true,gs,ts,xs)])(hq:QuP v g cur q)(hl:q.length<=10000)(z:Int)(ty:TypeId) :
  ∃ v' w' g' cur',(Builtin.append_ #[230,230] ty #[v,.slice (some ⟨w.heap.size,0,none⟩) 1 1]).run Tryz.prog (w.alloc (.cells #[.int .i64 z] 3))=.ok v' w'/\St S w0 w' [(true,g',3,cur'),(true,gs,ts,xs)]/\QuP v' g' cur' (q++[z]):=by
 obtain⟨o,c,rfl,hoc,hlc,hcell⟩:=hq.ex
 obtain⟨i,hi,hz,hs,hby⟩:=info3
 have H1:=H.alloc 3 #[.int .i64 z]
 have hg:=H1.get 1 rfl
 have hsrc:∀ w1:World,w1=w.alloc (.cells #[.int .i64 z] 3)->Src Tryz.prog i.size 230 (.slice (some ⟨w.heap.size,0,none⟩) 1 1) 1 [.int .i64 z] w1:=fun w1 e=>by
  subst e
  refine Src.ofSlice _ Tryz.underlying230 ⟨w.heap.size,0,none⟩ 1 1 [.int .i64 z] (by rw [hs];rfl) (cell_one_new w (.int .i64 z) 3) ?_
  intro u hu
  rw [List.mem_singleton.1 hu]
  rfl
 by_cases hroom:q.length+1<=c
 ·have hlt:o+q.length<cur.size:=by omega
  have hr:=run_append_room_src (P:=Tryz.prog) (w.alloc (.cells #[.int .i64 z] 3)) 230 230 ty 3 i Tryz.underlying230 hi g o q.length c (.slice (some ⟨w.heap.size,0,none⟩) 1 1) 1 [.int .i64 z] (hsrc _ rfl) hroom (fun j hj=>by
   obtain rfl:j=0:=by simpa using hj
   rw [hs,Nat.mul_one,Nat.add_zero,cell_of_row _ _ _ _ _ _ hg]
   simp [hlt]) (fun j hj=>frozen_of_row _ _ _ _ _ hg)
  rw [hs,Nat.mul_one] at hr
  have e1:(w.alloc (.cells #[.int .i64 z] 3)).setCells g (o+q.length) [.int .i64 z]=(w.alloc (.cells #[.int .i64 z] 3)).setCell ⟨g,o+q.length,none⟩ (.int .i64 z):=rfl
  rw [e1] at hr
  have H2:=(H1.setCell 1 rfl (o+q.length) (.int .i64 z)).tail
  refine⟨_,_,g,_,hr,H2,⟨o,c,by simp,by simpa using hoc,by simp;omega,fun k u hk=>?_⟩⟩
  by_cases hkl:k<q.length
  ·rw [List.getElem?_append_left hkl] at hk
   rw [Array.getElem?_setIfInBounds_ne (by omega)]
   exact hcell k u hk
  ·rw [List.getElem?_append_right (by omega)] at hk
   have hk0:k - q.length=0:=by
    have:=(List.getElem?_eq_some_iff.1 hk).1
    simpa using this
   rw [hk0] at hk
   cases hk
   obtain rfl:k=q.length:=by omega
   simp [hlt]
 ·have hc:c=q.length:=by omega
  subst hc
  have hr:=run_append_grow (P:=Tryz.prog) (w.alloc (.cells #[.int .i64 z] 3)) 230 ty 3 i (.int .i64 0) Tryz.underlying230 hi hz ⟨g,o,none⟩ q.length q.length (q.map (Value.int .i64)) (by rw [hs];simp) (fun j u hj=>by
   rw [Zav,cell_of_row _ _ _ _ _ _ hg]
   rw [List.getElem?_map] at hj
   cases hq':q[j]? with
   | none=>rw [hq'] at hj;cases hj
   | some y=>rw [hq'] at hj;cases hj;exact hcell j y hq') ⟨w.heap.size,0,none⟩ 1 1 [.int .i64 z] (by rw [hs];rfl) (cell_one_new w (.int .i64 z) 3) (by omega) (by omega) (by rw [hby];exact Zgm (by omega) (by omega))
  have H2:=(H1.drew.alloc 3 ((q.map (Value.int .i64)).toArray++#[.int .i64 z]++Builtin.zeroCells (Value.int .i64 0).cells (grownCap (w.alloc (.cells #[.int .i64 z] 3)) (q.length+1) q.length 3 - (q.length+1)))).sub (M:=[_,_]) (List.Sublist.cons_cons _ (List.Sublist.cons _ (List.Sublist.cons _ (List.Sublist.refl _))))
  refine⟨_,_,_,_,hr,H2,⟨0,grownCap (w.alloc (.cells #[.int .i64 z] 3)) (q.length+1) q.length 3,by simp,?_,?_,fun k u hk=>?_⟩⟩
  ·simp [size_zeroCells,Value.cells]
   have:=grownCap_ge (w.alloc (.cells #[.int .i64 z] 3)) (q.length+1) q.length 3
   omega
  ·have:=grownCap_ge (w.alloc (.cells #[.int .i64 z] 3)) (q.length+1) q.length 3
   simpa using this
  ·have hk':=(List.getElem?_eq_some_iff.1 hk).1
   have e2:(q.map (Value.int .i64)).toArray++#[Value.int .i64 z]=((q++[z]).map (Value.int .i64)).toArray:=by simp
   rw [Nat.zero_add,e2,Array.getElem?_append_left (by simpa using hk')]
   rw [List.getElem?_toArray,List.getElem?_map,hk]
   rfl
end
section
open Go.RowKit Go.Shelf
structure SI (w0:World) (g g6:Nat) (t:TypeId) (pre:Array Value) (R:Nat->Prop) (W:List Nat) (q:List Int) (w:World):Prop where
 but:But (fun k=>k=g) w0 w
 set:w.heap[g]?=some (.cells (pA pre W) t (0,0))
 gl:g<w0.heap.size
 n6:w0.heap.size<=g6
 row:∃ gr cur v,w.heap[g6]?=some (.cells #[v] 230 (0,0))/\w.heap[gr]?=some (.cells cur 3 (0,0))/\QuP v gr cur q/\w0.heap.size<=gr/\gr≠g6/\R gr
section
variable {w0 w w':World}{g g6:Nat}{t:TypeId}{pre:Array Value}{R R':Nat->Prop}{W:List Nat}{q:List Int}
theorem SI.mono (h:SI w0 g g6 t pre R W q w)(hR:∀ k,k<w.heap.size->R k->R' k):SI w0 g g6 t pre R' W q w:=by
 obtain⟨gr,cur,v,h1,h2,h3,h4,h5,h6⟩:=h.row
 exact⟨h.but,h.set,h.gl,h.n6,gr,cur,v,h1,h2,h3,h4,h5,hR gr (Array.getElem?_eq_some_iff.1 h2).1 h6⟩
theorem SI.kept (h:SI w0 g g6 t pre R W q w)(hb:But (fun _=>False) w0 w0->But (fun k=>k=g) w0 w')(hk:∀ (k:Nat)(cs:Array Value)(t:TypeId),w.heap[k]?=some (.cells cs t (0,0))->w'.heap[k]?=some (.cells cs t (0,0))):SI w0 g g6 t pre R W q w':=by
 obtain⟨gr,cur,v,h1,h2,h3,h4,h5,h6⟩:=h.row
 exact⟨hb (But.refl _ _),hk _ _ _ h.set,h.gl,h.n6,gr,cur,v,hk _ _ _ h1,hk _ _ _ h2,h3,h4,h5,h6⟩
theorem SI.below (h:SI w0 g g6 t pre R W q w)(hb:Below w.heap.size w w'):SI w0 g g6 t pre R W q w' :=
 h.kept (fun _=>h.but.trans (T:=fun _=>False) ⟨hb.os,hb.tape,hb.output,hb.size,fun k hk _=>hb.block k hk⟩ (fun _ _ h=>h.elim)) (fun k cs t e=>(hb.block k (Array.getElem?_eq_some_iff.1 e).1).trans e)
theorem SI.own {B:Nat}{row:Option Nat}(h:SI w0 g g6 t pre R W q w)(hB:w0.heap.size<=B)(hg:w.grownBy w' row)(hr:∀ r,row=some r->B<=r/\∃ o:Obj,w.heap[r]?=some o/\o.isCells=false):SI w0 g g6 t pre R W q w':=by
 refine h.kept (fun _=>h.but.grown hg (fun k e hk=>by have:=(hr k e).1;omega)) (fun k cs t e=>(hg.block k (Array.getElem?_eq_some_iff.1 e).1 (fun e2=>?_)).trans e)
 obtain⟨_,o,ho,hc⟩:=hr k e2.symm
 rw [e] at ho
 cases ho
 cases hc
theorem SI.drew (h:SI w0 g g6 t pre R W q w):SI w0 g g6 t pre R W q w.drew:=h.kept (fun _=>h.but.drew) (fun _ _ _ e=>e)
theorem SI.box (h:SI w0 g g6 t pre R W q w){q':List Int}{v':Value}(hq:∀ gr cur v,w.heap[g6]?=some (.cells #[v] 230 (0,0))->w.heap[gr]?=some (.cells cur 3 (0,0))->QuP v gr cur q->QuP v' gr cur q'):SI w0 g g6 t pre R W q' (w.setCell ⟨g6,0,none⟩ v'):=by
 obtain⟨gr,cur,v,h1,h2,h3,h4,h5,h6⟩:=h.row
 have hn:=h.n6
 have hl:=h.gl
 have ot:∀ k,k≠g6->(w.setCell ⟨g6,0,none⟩ v').heap[k]?=w.heap[k]?:=fun k hk=>Below.heap_setCell w ⟨g6,0,none⟩ _ k hk
 refine⟨h.but.trans (T:=fun k=>k=g6) ⟨rfl,rfl,rfl,by simp [World.setCell],fun k _ hk=>ot k hk⟩ (fun i hi e=>by omega),(ot g (by omega)).trans h.set,h.gl,h.n6,gr,cur,v',heap_setCell_same w g6 0 _ 230 _ h1,(ot gr h5).trans h2,hq gr cur v h1 h2 h3,h4,h5,h6⟩
theorem SI.turn (h:SI w0 g g6 t pre R W q w){W':List Nat}(hb:But (fun k=>k=g) w w')(hs:w'.heap[g]?=some (.cells (pA pre W') t (0,0))):SI w0 g g6 t pre R W' q w':=by
 obtain⟨gr,cur,v,h1,h2,h3,h4,h5,h6⟩:=h.row
 have hn:=h.n6
 have hl:=h.gl
 exact⟨h.but.trans hb (fun _ _ h=>h),hs,h.gl,h.n6,gr,cur,v,(hb.block g6 (Array.getElem?_eq_some_iff.1 h1).1 (by omega)).trans h1,(hb.block gr (Array.getElem?_eq_some_iff.1 h2).1 (by omega)).trans h2,h3,h4,h5,h6⟩
theorem SI.push (h:SI w0 g g6 t pre R W q w)(hR:∀ k,w.heap.size<=k->R k)(hl:q.length<=10000)(z:Int)(ty:TypeId) :
  ∃ v v' w',w.heap[g6]?=some (.cells #[v] 230 (0,0))/\(Builtin.append_ #[230,230] ty #[v,.slice (some ⟨w.heap.size,0,none⟩) 1 1]).run Tryz.prog (w.alloc (.cells #[.int .i64 z] 3))=.ok v' w'/\w'.heap[g6]?=some (.cells #[v] 230 (0,0))/\v'.oneCell'=true /\
   SI w0 g g6 t pre R W (q++[z]) (w'.setCell ⟨g6,0,none⟩ v')/\But (fun k=>k=g6\/R k/\∃ cur,w.heap[k]?=some (.cells cur 3 (0,0))) w (w'.setCell ⟨g6,0,none⟩ v'):=by
 obtain⟨gr,cur,v,h1,h2,h3,h4,h5,h6⟩:=h.row
 have hn:=h.n6
 have hgl:=h.gl
 have l6:=(Array.getElem?_eq_some_iff.1 h1).1
 have lr:=(Array.getElem?_eq_some_iff.1 h2).1
 have lg:=(Array.getElem?_eq_some_iff.1 h.set).1
 have H:St (fun k=>k=gr\/k=g6) w w [(true,gr,3,cur),(true,g6,230,#[v])]:=by
  refine⟨But.refl _ _,fun x hx=>?_,fun x hx _ _=>?_,by simp [h5]⟩
  ·rcases List.mem_cons.1 hx with rfl|hx
   ·exact h2
   ·rw [List.mem_singleton.1 hx];exact h1
  ·rcases List.mem_cons.1 hx with rfl|hx
   ·exact .inl rfl
   ·rw [List.mem_singleton.1 hx];exact .inr rfl
 obtain⟨v',w',gr',cur',hr,H2,Q2⟩:=run_push H h3 hl z ty
 have g0:=H2.get 0 rfl
 have g1:=H2.get 1 rfl
 have hne:gr'≠g6:=by have:=H2.nd;simpa using this
 have hold:gr'<w.heap.size->gr'=gr:=fun hl=>by
  rcases H2.ok _ (List.mem_of_getElem? (i:=0) rfl) rfl hl with h|h
  ·exact h
  ·exact (hne h).elim
 have ot:∀ k,k≠g6->(w'.setCell ⟨g6,0,none⟩ v').heap[k]?=w'.heap[k]?:=fun k hk=>Below.heap_setCell w' ⟨g6,0,none⟩ _ k hk
 have hB:But (fun k=>k=gr\/k=g6) w (w'.setCell ⟨g6,0,none⟩ v'):=H2.but.trans (T:=fun k=>k=g6) ⟨rfl,rfl,rfl,by simp [World.setCell],fun k _ hk=>ot k hk⟩ (fun i _ e=>.inr e)
 have hq6:R gr'/\w0.heap.size<=gr'/\gr'≠g:=by
  by_cases hlt:gr'<w.heap.size
  ·rw [hold hlt];exact⟨h6,h4,by omega⟩
  ·exact⟨hR _ (by omega),by have:=h.but.size;omega,by omega⟩
 refine⟨v,v',w',h1,hr,g1,by obtain⟨_,_,rfl,_⟩:=Q2.ex;rfl,⟨h.but.trans hB (fun i hi e=>by omega),?_,h.gl,h.n6,gr',cur',v',heap_setCell_same w' g6 0 _ 230 _ g1,(ot gr' hne).trans g0,Q2,hq6.2.1,hne,hq6.1⟩,hB.mono (fun k e=>?_)⟩
 ·exact (hB.block g lg (by omega)).trans h.set
 ·rcases e with rfl|rfl
  ·exact .inr ⟨h6,cur,h2⟩
  ·exact .inl rfl
theorem SI.at (h:SI w0 g g6 t pre R W q w):∃ gr,SI w0 g g6 t pre (fun k=>k=gr) W q w/\w0.heap.size<=gr/\gr<w.heap.size/\gr≠g6/\∃ cur,w.heap[gr]?=some (.cells cur 3 (0,0)):=by
 obtain⟨gr,cur,v,h1,h2,h3,h4,h5,h6⟩:=h.row
 exact⟨gr,⟨h.but,h.set,h.gl,h.n6,gr,cur,v,h1,h2,h3,h4,h5,rfl⟩,h4,(Array.getElem?_eq_some_iff.1 h2).1,h5,cur,h2⟩
theorem QuP.last {v:Value}{g:Nat}{cur:Array Value}{z:Int}{q:List Int}(h:QuP v g cur (q++[z])):∃ o c,v=.slice (some ⟨g,o,none⟩) (q.length+1) c/\cur[o+q.length]?=some (.int .i64 z)/\q.length+1<=c/\QuP (.slice (some ⟨g,o,none⟩) q.length c) g cur q:=by
 obtain⟨o,c,rfl,h1,h2,h3⟩:=h.ex
 simp only [List.length_append,List.length_cons,List.length_nil] at h2 ⊢
 refine⟨o,c,rfl,h3 q.length z (by simp),h2,⟨o,c,rfl,h1,by omega,fun i u hi=>h3 i u ?_⟩⟩
 rw [List.getElem?_append_left (List.getElem?_eq_some_iff.1 hi).1]
 exact hi
theorem QuP.empty {v:Value}{g:Nat}{cur:Array Value}(h:QuP v g cur []):∃ o c,v=.slice (some ⟨g,o,none⟩) 0 c:=by
 obtain⟨o,c,rfl,_⟩:=h.ex
 exact⟨o,c,rfl⟩
end
theorem ld60 {w:World}{ad:Addr}{v:Value}(h:w.cell? ad=some v):(loadVar 230 ad).run Tryz.prog w=.ok v w:=by
 have ha:∀ w,(isAgg 230).run Tryz.prog w=.ok false w:=fun w=>by kernel_rfl
 simp [loadVar,ha,go_sem,h]
theorem ZjK {w:World}{g:Nat}{u v:Value}(h:w.heap[g]?=some (.cells #[u] 230 (0,0)))(hv:v.oneCell'=true):(storeVar 230 ⟨g,0,none⟩ v).run Tryz.prog w=.ok () (w.setCell ⟨g,0,none⟩ v):=by
 have hc:=Zal h 0 (v:=u) rfl
 have hf:=frozen_of_row w g 0 _ 230 h
 have hcs:v.cells=#[v]:=by cases v <;> first|rfl|cases hv
 have e:(storeCells ⟨g,0,none⟩ [v]).run Tryz.prog w=.ok () (w.setCell ⟨g,0,none⟩ v):=by simp [storeCells,go_sem,run_store Tryz.prog w _ v _ hv,stored,hc,hf]
 have o60:∀ w,(sizeOf 230).run Tryz.prog w=.ok 1 w:=fun w=>by kernel_rfl
 unfold storeVar
 simp only [Sem.run_bind,o60,Result.andThen_ok,hcs]
 simpa using e
section
variable {F:Fence}{n:Nat}{w0 w w':World}{ops:Array Oper}{rest:List Oper}{a:Act}{Q:Exit->Act->World->Prop}{dst:Option Nat}{x y:Operand}{ty:TypeId}{pos:String}{after:Array Edge}
theorem atI_push {d1 d2:Nat}{s p:Operand}{ty2 ty3:TypeId}{pos2 pos3:String}{after2 after3:Array Edge}(h:wpListIn F n Tryz.prog ops Q (⟨some d1,.buildSlice 230 1 #[(0,x)],ty,pos,after,none⟩::⟨some d2,.call { callee:=.builtin .append,args:=#[s,.tmp d1],argTypes:=#[230,230] },ty2,pos2,after2,none⟩::⟨none,.store 230 p (.tmp d2),ty3,pos3,after3,none⟩::rest) a w):wpListIn F n Tryz.prog ops Q (⟨some d1,.buildSlice 230 1 #[(0,x)],ty,pos,after,none⟩::⟨some d2,.call { callee:=.builtin .append,args:=#[s,.tmp d1],argTypes:=#[230,230] },ty2,pos2,after2,none⟩::⟨none,.store 230 p (.tmp d2),ty3,pos3,after3,none⟩::rest) a w:=h
theorem wlI_push {d1 d2:Nat}{s p:Operand}{ty2 ty3:TypeId}{pos2 pos3:String}{after2 after3:Array Edge}(hF:∀ f,F.fn f){v v':Value}{g6:Nat}{z:Int}
  (hr:(Builtin.append_ #[230,230] ty2 #[v,.slice (some ⟨w.heap.size,0,none⟩) 1 1]).run Tryz.prog (w.alloc (.cells #[.int .i64 z] 3))=.ok v' w') (h6:w'.heap[g6]?=some (.cells #[v] 230 (0,0))) (hv:v'.oneCell'=true)
  (hx:a.eval x=.int .i64 z) (hs:∀ u,(a.put (some d1) u).eval s=v) (ht:∀ u,(a.put (some d1) u).eval (.tmp d1)=u) (hp:∀ u u',((a.put (some d1) u).put (some d2) u').eval p=.pointer (some ⟨g6,0,none⟩)) (ht2:∀ u u',((a.put (some d1) u).put (some d2) u').eval (.tmp d2)=u')
  (k:∀ u,wpListIn F n Tryz.prog ops Q rest ((a.put (some d1) u).put (some d2) v') (w'.setCell ⟨g6,0,none⟩ v')) :
  wpListIn F n Tryz.prog ops Q (⟨some d1,.buildSlice 230 1 #[(0,x)],ty,pos,after,none⟩::⟨some d2,.call { callee:=.builtin .append,args:=#[s,.tmp d1],argTypes:=#[230,230] },ty2,pos2,after2,none⟩::⟨none,.store 230 p (.tmp d2),ty3,pos3,after3,none⟩::rest) a w:=by
 have hbs:(Instr.buildSlice 230 1 #[(0,.int .i64 z)]).run Tryz.prog w=.ok (.slice (some ⟨w.heap.size,0,none⟩) 1 1) (w.alloc (.cells #[.int .i64 z] 3)):=by kernel_rfl
 refine ZaF hF (fun c=>nofun) (w':=w.alloc (.cells #[.int .i64 z] 3)) (v:=.slice (some ⟨w.heap.size,0,none⟩) 1 1) ?_ ?_
 ·unfold execOp
  simp only [List.map_toArray,List.map_cons,List.map_nil,hx,Sem.run_bind,hbs,Result.andThen_ok,Sem.run_pure]
 ·refine ZaF hF (fun c=>nofun) (w':=w') (v:=v') ?_ ?_
  ·simp [execOp,resolve,invoke,builtin,hs,ht,hr,Result.andThen]
  ·refine Za4 hF (fun c=>nofun) (w':=w'.setCell ⟨g6,0,none⟩ v') ?_ (k _)
   unfold execOp
   simp only [hp,ht2,Instr.storeAt,Instr.sureAddr,Sem.run_bind,Sem.run_pure,Result.andThen_ok,ZjK h6 hv]
theorem ZmA {d1 d2:Nat}{ty2 ty3:TypeId}{pos2 pos3:String}{after2 after3:Array Edge}(h:wpListIn F n Tryz.prog ops Q (⟨some d1,.buildSlice 230 1 #[(0,x)],ty,pos,after,none⟩::⟨some d2,.alloc 230,ty2,pos2,after2,none⟩::⟨none,.store 230 (.tmp d2) (.tmp d1),ty3,pos3,after3,none⟩::rest) a w):wpListIn F n Tryz.prog ops Q (⟨some d1,.buildSlice 230 1 #[(0,x)],ty,pos,after,none⟩::⟨some d2,.alloc 230,ty2,pos2,after2,none⟩::⟨none,.store 230 (.tmp d2) (.tmp d1),ty3,pos3,after3,none⟩::rest) a w:=h
theorem ZmB {d1 d2:Nat}{ty2 ty3:TypeId}{pos2 pos3:String}{after2 after3:Array Edge}(hF:∀ f,F.fn f){z:Int}(hx:a.eval x=.int .i64 z)(ht1:∀ u u',((a.put (some d1) u).put (some d2) u').eval (.tmp d1)=u)(ht2:∀ u u',((a.put (some d1) u).put (some d2) u').eval (.tmp d2)=u')
  (k:∀ gr g6 w',w'.heap[g6]?=some (.cells #[.slice (some ⟨gr,0,none⟩) 1 1] 230 (0,0))->w'.heap[gr]?=some (.cells #[.int .i64 z] 3 (0,0))->Below w.heap.size w w'->w.heap.size<=gr->w.heap.size<=g6->gr≠g6->wpListIn F n Tryz.prog ops Q rest ((a.put (some d1) (.slice (some ⟨gr,0,none⟩) 1 1)).put (some d2) (.pointer (some ⟨g6,0,none⟩))) w') :
  wpListIn F n Tryz.prog ops Q (⟨some d1,.buildSlice 230 1 #[(0,x)],ty,pos,after,none⟩::⟨some d2,.alloc 230,ty2,pos2,after2,none⟩::⟨none,.store 230 (.tmp d2) (.tmp d1),ty3,pos3,after3,none⟩::rest) a w:=by
 have hbs:(Instr.buildSlice 230 1 #[(0,.int .i64 z)]).run Tryz.prog w=.ok (.slice (some ⟨w.heap.size,0,none⟩) 1 1) (w.alloc (.cells #[.int .i64 z] 3)):=by kernel_rfl
 have hal:∀ (ev:Operand->Value) (w1:World),(execOp ev ⟨some d2,.alloc 230,ty2,pos2,after2,none⟩).run Tryz.prog w1=.ok (.value (.pointer (some ⟨w1.heap.size,0,none⟩))) (w1.alloc (.cells #[.slice none 0 0] 230)):=fun ev w1=>by
  unfold execOp
  kernel_rfl
 have H:=((St.start Nope w).alloc 3 #[.int .i64 z]).alloc 230 #[.slice none 0 0]
 have h6:=H.get 0 rfl
 have H2:=H.setCell 0 rfl 0 (.slice (some ⟨w.heap.size,0,none⟩) 1 1)
 have q6:=H2.get 0 rfl
 have qr:=H2.get 1 rfl
 have nd:=H2.nd
 refine ZaF hF (fun c=>nofun) (w':=w.alloc (.cells #[.int .i64 z] 3)) (v:=.slice (some ⟨w.heap.size,0,none⟩) 1 1) ?_ ?_
 ·unfold execOp
  simp only [List.map_toArray,List.map_cons,List.map_nil,hx,Sem.run_bind,hbs,Result.andThen_ok,Sem.run_pure]
 ·refine ZaF hF (fun c=>nofun) (hal _ _) ?_
  refine Za4 hF (fun c=>nofun) ?_ (k w.heap.size (w.alloc (.cells #[.int .i64 z] 3)).heap.size _ q6 qr H2.below (Nat.le_refl _) (by simp) (by simp))
  unfold execOp
  simp only [ht1,ht2,Instr.storeAt,Instr.sureAddr,Sem.run_bind,Sem.run_pure,Result.andThen_ok,ZjK h6 (v:=.slice (some ⟨w.heap.size,0,none⟩) 1 1) rfl]
end
end
section
open Go.RowKit Go.Shelf
attribute [local go_sem] Oper.semAt_some
set_option maxRecDepth 100000 in
theorem reg51_3 (n0:Nat)(ds:List Deferred)(w:World)(g g6 o m c:Nat)(z:Int)(hm:m<=100000)(ln:Nat)(hln:ln=m+1)(hmc:m+1<=c)(h6:w.heap[g6]?=some (.cells #[.slice (some ⟨g,o,none⟩) ln c] 230 (0,0)))(hz:w.cell? ⟨g,o+m,none⟩=some (.int .i64 z))
  (u0 u1 u2 u3 u4 u5 u8 u9 u10 u11 u12 u13 u14 u15 u16 u17 u18 u19 u20 u21 u22 u23 u24 u25 u26 u27 u28 u29 u30 u31 u32 u33 u34 u35 u36:Value) (Q:Exit->Act->World->Prop)
  (h:Q .normal { tmps:=(List.toArray ((u0::u1::.int .i64 z::u3::u4::u5::.pointer (some ⟨g6,0,none⟩)::.int .i64 (m:Int)::u8::u9::u10::u11::u12::u13::u14::u15::u16::.slice (some ⟨g,o,none⟩) ln c::.int .i64 (m:Int)::.pointer (some ⟨g,o+m,none⟩)::.int .i64 z::.slice (some ⟨g,o,none⟩) ln c::.int .i64 (m:Int)::.slice (some ⟨g,o,none⟩) m c::u24::u25::u26::u27::u28::u29::u30::u31::u32::u33::u34::u35::u36::[]):List Value)),defers:=ds } (w.drew.setCell ⟨g6,0,none⟩ (.slice (some ⟨g,o,none⟩) m c))) :
  (Code.region 3 #[⟨some 17,.load 230 (.tmp 6),230,"sim.go:159",#[],none⟩,⟨some 18,.move (.tmp 7),3,"sim.go:159",#[],none⟩,⟨some 19,.indexAddr 230 (.tmp 17) (.tmp 18),0,"sim.go:159",#[⟨0,.data⟩,⟨1,.data⟩],none⟩,⟨some 20,.load 3 (.tmp 19),3,"sim.go:159",#[⟨2,.data⟩],none⟩,⟨some 21,.load 230 (.tmp 6),230,"sim.go:159",#[],none⟩,⟨some 22,.move (.tmp 7),3,"sim.go:159",#[],none⟩,⟨some 23,.slice 230 (.tmp 21) none (some (.tmp 22)) none,230,"sim.go:159",#[⟨4,.data⟩,⟨5,.data⟩],none⟩,⟨some 2,.assign (.tmp 20),3,"sim.go:159",#[⟨3,.data⟩,⟨0,.phase⟩,⟨1,.phase⟩,⟨2,.phase⟩,⟨3,.phase⟩,⟨4,.textOnly .lateStores⟩,⟨5,.textOnly .lateStores⟩,⟨6,.textOnly .lateStoresUnsure⟩],none⟩,⟨none,.store 230 (.tmp 6) (.tmp 23),0,"sim.go:159",#[⟨6,.data⟩,⟨7,.chain⟩,⟨0,.phase⟩,⟨1,.phase⟩,⟨2,.phase⟩,⟨3,.phase⟩,⟨4,.phase⟩,⟨5,.phase⟩,⟨6,.phase⟩,⟨7,.phase⟩],none⟩] true).wpIn Fence.wide n0 Tryz.prog Q { tmps:=(List.toArray ((u0::u1::u2::u3::u4::u5::.pointer (some ⟨g6,0,none⟩)::.int .i64 (m:Int)::u8::u9::u10::u11::u12::u13::u14::u15::u16::u17::u18::u19::u20::u21::u22::u23::u24::u25::u26::u27::u28::u29::u30::u31::u32::u33::u34::u35::u36::[]):List Value)),defers:=ds } w:=by
 have c6:=Zal h6 0 (v:=.slice (some ⟨g,o,none⟩) ln c) rfl
 have f6:=frozen_of_row w g6 0 _ 230 h6
 have i1:(m:Int)<(ln:Int):=by omega
 have i2:(m:Int)<=(c:Int):=by omega
 have i3:¬ (m:Int)<0:=by omega
 replace h6:=Zaa h6
 replace hln:=Zaa hln
 replace h:=Zaa h
 refine Code.wpIn_mono NoPanic.imp ?_
 refine wpIn_region_any (by kernel_rfl) ?_
 change wpAnyIn _ _ _ _ _ _ _ _ _ (World.drew w)
 refine wpAnyIn_take (i:=1) (oi:=⟨some 18,.move (.tmp 7),3,"sim.go:159",#[],none⟩) (v:=?_) rfl rfl (by kernel_rfl) (by kernel_rfl) (by kernel_rfl) (fun _ _ _ h=>h) ⟨Or.inl ⟨by rfl,?_⟩,fun _=>rfl⟩ ?_
 rotate_left
 ·intro w'
  go_simp
  try with_reducible rfl
 try simp only [Act.put,PuA]
 refine wpAnyIn_take (i:=5) (oi:=⟨some 22,.move (.tmp 7),3,"sim.go:159",#[],none⟩) (v:=?_) rfl rfl (by kernel_rfl) (by kernel_rfl) (by kernel_rfl) (fun _ _ _ h=>h) ⟨Or.inl ⟨by rfl,?_⟩,fun _=>rfl⟩ ?_
 rotate_left
 ·intro w'
  go_simp
  try with_reducible rfl
 try simp only [Act.put,PuA]
 refine wpAnyIn_ready (rs:=[0,4]) (by kernel_rfl) (by simp) ?_
 refine (AllReadyIn.cons (o:=⟨some 17,.load 230 (.tmp 6),230,"sim.go:159",#[],none⟩) rfl (fun K0 hK0=>?_) (AllReadyIn.cons (o:=⟨some 21,.load 230 (.tmp 6),230,"sim.go:159",#[],none⟩) rfl (fun K4 hK4=>?_) AllReadyIn.nil))
 ·go_simp
  refine hK0 _ _ ?_
  clear hK0 K0
  try simp only [Act.put,PuA]
  refine wpAnyIn_take (i:=2) (oi:=⟨some 19,.indexAddr 230 (.tmp 17) (.tmp 18),0,"sim.go:159",#[⟨0,.data⟩,⟨1,.data⟩],none⟩) (v:=?_) rfl rfl (by kernel_rfl) (by kernel_rfl) (by kernel_rfl) (fun _ _ _ h=>h) ⟨Or.inl ⟨by rfl,?_⟩,fun _=>rfl⟩ ?_
  rotate_left
  ·intro w'
   go_simp
   try with_reducible rfl
  try simp only [Act.put,PuA]
  refine wpAnyIn_ready (rs:=[3,4]) (by kernel_rfl) (by simp) ?_
  refine (AllReadyIn.cons (o:=⟨some 20,.load 3 (.tmp 19),3,"sim.go:159",#[⟨2,.data⟩],none⟩) rfl (fun K3 hK3=>?_) (AllReadyIn.cons (o:=⟨some 21,.load 230 (.tmp 6),230,"sim.go:159",#[],none⟩) rfl (fun K4 hK4=>?_) AllReadyIn.nil))
  ·go_simp
   refine hK3 _ _ ?_
   clear hK3 K3
   try simp only [Act.put,PuA]
   refine wpAnyIn_take (i:=7) (oi:=⟨some 2,.assign (.tmp 20),3,"sim.go:159",#[⟨3,.data⟩,⟨0,.phase⟩,⟨1,.phase⟩,⟨2,.phase⟩,⟨3,.phase⟩,⟨4,.textOnly .lateStores⟩,⟨5,.textOnly .lateStores⟩,⟨6,.textOnly .lateStoresUnsure⟩],none⟩) (v:=?_) rfl rfl (by kernel_rfl) (by kernel_rfl) (by kernel_rfl) (fun _ _ _ h=>h) ⟨Or.inl ⟨by rfl,?_⟩,fun _=>rfl⟩ ?_
   rotate_left
   ·intro w'
    go_simp
    try with_reducible rfl
   try simp only [Act.put,PuA]
   refine wpAnyIn_ready (rs:=[4]) (by kernel_rfl) (by simp) ?_
   refine (AllReadyIn.cons (o:=⟨some 21,.load 230 (.tmp 6),230,"sim.go:159",#[],none⟩) rfl (fun K4 hK4=>?_) AllReadyIn.nil)
   go_simp
   refine hK4 _ _ ?_
   clear hK4 K4
   try simp only [Act.put,PuA]
   refine wpAnyIn_take (i:=6) (oi:=⟨some 23,.slice 230 (.tmp 21) none (some (.tmp 22)) none,230,"sim.go:159",#[⟨4,.data⟩,⟨5,.data⟩],none⟩) (v:=?_) rfl rfl (by kernel_rfl) (by kernel_rfl) (by kernel_rfl) (fun _ _ _ h=>h) ⟨Or.inl ⟨by rfl,?_⟩,fun _=>rfl⟩ ?_
   rotate_left
   ·intro w'
    go_simp
    try with_reducible rfl
   try simp only [Act.put,PuA]
   refine wpAnyIn_ready (rs:=[8]) (by kernel_rfl) (by simp) ?_
   refine (AllReadyIn.cons (o:=⟨none,.store 230 (.tmp 6) (.tmp 23),0,"sim.go:159",#[⟨6,.data⟩,⟨7,.chain⟩,⟨0,.phase⟩,⟨1,.phase⟩,⟨2,.phase⟩,⟨3,.phase⟩,⟨4,.phase⟩,⟨5,.phase⟩,⟨6,.phase⟩,⟨7,.phase⟩],none⟩) rfl (fun K8 hK8=>?_) AllReadyIn.nil)
   go_simp
   refine hK8 _ _ ?_
   clear hK8 K8
   try simp only [Act.put,PuA]
   refine wpAnyIn_done (by kernel_rfl) ?_ _
   refine NoPanic.normal ?_
   exact h.out
  ·go_simp
   refine hK4 _ _ ?_
   clear hK4 K4
   try simp only [Act.put,PuA]
   refine wpAnyIn_take (i:=6) (oi:=⟨some 23,.slice 230 (.tmp 21) none (some (.tmp 22)) none,230,"sim.go:159",#[⟨4,.data⟩,⟨5,.data⟩],none⟩) (v:=?_) rfl rfl (by kernel_rfl) (by kernel_rfl) (by kernel_rfl) (fun _ _ _ h=>h) ⟨Or.inl ⟨by rfl,?_⟩,fun _=>rfl⟩ ?_
   rotate_left
   ·intro w'
    go_simp
    try with_reducible rfl
   try simp only [Act.put,PuA]
   refine wpAnyIn_ready (rs:=[3]) (by kernel_rfl) (by simp) ?_
   refine (AllReadyIn.cons (o:=⟨some 20,.load 3 (.tmp 19),3,"sim.go:159",#[⟨2,.data⟩],none⟩) rfl (fun K3 hK3=>?_) AllReadyIn.nil)
   go_simp
   refine hK3 _ _ ?_
   clear hK3 K3
   try simp only [Act.put,PuA]
   refine wpAnyIn_take (i:=7) (oi:=⟨some 2,.assign (.tmp 20),3,"sim.go:159",#[⟨3,.data⟩,⟨0,.phase⟩,⟨1,.phase⟩,⟨2,.phase⟩,⟨3,.phase⟩,⟨4,.textOnly .lateStores⟩,⟨5,.textOnly .lateStores⟩,⟨6,.textOnly .lateStoresUnsure⟩],none⟩) (v:=?_) rfl rfl (by kernel_rfl) (by kernel_rfl) (by kernel_rfl) (fun _ _ _ h=>h) ⟨Or.inl ⟨by rfl,?_⟩,fun _=>rfl⟩ ?_
   rotate_left
   ·intro w'
    go_simp
    try with_reducible rfl
   try simp only [Act.put,PuA]
   refine wpAnyIn_ready (rs:=[8]) (by kernel_rfl) (by simp) ?_
   refine (AllReadyIn.cons (o:=⟨none,.store 230 (.tmp 6) (.tmp 23),0,"sim.go:159",#[⟨6,.data⟩,⟨7,.chain⟩,⟨0,.phase⟩,⟨1,.phase⟩,⟨2,.phase⟩,⟨3,.phase⟩,⟨4,.phase⟩,⟨5,.phase⟩,⟨6,.phase⟩,⟨7,.phase⟩],none⟩) rfl (fun K8 hK8=>?_) AllReadyIn.nil)
   go_simp
   refine hK8 _ _ ?_
   clear hK8 K8
   try simp only [Act.put,PuA]
   refine wpAnyIn_done (by kernel_rfl) ?_ _
   refine NoPanic.normal ?_
   exact h.out
 ·go_simp
  refine hK4 _ _ ?_
  clear hK4 K4
  try simp only [Act.put,PuA]
  refine wpAnyIn_take (i:=6) (oi:=⟨some 23,.slice 230 (.tmp 21) none (some (.tmp 22)) none,230,"sim.go:159",#[⟨4,.data⟩,⟨5,.data⟩],none⟩) (v:=?_) rfl rfl (by kernel_rfl) (by kernel_rfl) (by kernel_rfl) (fun _ _ _ h=>h) ⟨Or.inl ⟨by rfl,?_⟩,fun _=>rfl⟩ ?_
  rotate_left
  ·intro w'
   go_simp
   try with_reducible rfl
  try simp only [Act.put,PuA]
  refine wpAnyIn_ready (rs:=[0]) (by kernel_rfl) (by simp) ?_
  refine (AllReadyIn.cons (o:=⟨some 17,.load 230 (.tmp 6),230,"sim.go:159",#[],none⟩) rfl (fun K0 hK0=>?_) AllReadyIn.nil)
  go_simp
  refine hK0 _ _ ?_
  clear hK0 K0
  try simp only [Act.put,PuA]
  refine wpAnyIn_take (i:=2) (oi:=⟨some 19,.indexAddr 230 (.tmp 17) (.tmp 18),0,"sim.go:159",#[⟨0,.data⟩,⟨1,.data⟩],none⟩) (v:=?_) rfl rfl (by kernel_rfl) (by kernel_rfl) (by kernel_rfl) (fun _ _ _ h=>h) ⟨Or.inl ⟨by rfl,?_⟩,fun _=>rfl⟩ ?_
  rotate_left
  ·intro w'
   go_simp
   try with_reducible rfl
  try simp only [Act.put,PuA]
  refine wpAnyIn_ready (rs:=[3]) (by kernel_rfl) (by simp) ?_
  refine (AllReadyIn.cons (o:=⟨some 20,.load 3 (.tmp 19),3,"sim.go:159",#[⟨2,.data⟩],none⟩) rfl (fun K3 hK3=>?_) AllReadyIn.nil)
  go_simp
  refine hK3 _ _ ?_
  clear hK3 K3
  try simp only [Act.put,PuA]
  refine wpAnyIn_take (i:=7) (oi:=⟨some 2,.assign (.tmp 20),3,"sim.go:159",#[⟨3,.data⟩,⟨0,.phase⟩,⟨1,.phase⟩,⟨2,.phase⟩,⟨3,.phase⟩,⟨4,.textOnly .lateStores⟩,⟨5,.textOnly .lateStores⟩,⟨6,.textOnly .lateStoresUnsure⟩],none⟩) (v:=?_) rfl rfl (by kernel_rfl) (by kernel_rfl) (by kernel_rfl) (fun _ _ _ h=>h) ⟨Or.inl ⟨by rfl,?_⟩,fun _=>rfl⟩ ?_
  rotate_left
  ·intro w'
   go_simp
   try with_reducible rfl
  try simp only [Act.put,PuA]
  refine wpAnyIn_ready (rs:=[8]) (by kernel_rfl) (by simp) ?_
  refine (AllReadyIn.cons (o:=⟨none,.store 230 (.tmp 6) (.tmp 23),0,"sim.go:159",#[⟨6,.data⟩,⟨7,.chain⟩,⟨0,.phase⟩,⟨1,.phase⟩,⟨2,.phase⟩,⟨3,.phase⟩,⟨4,.phase⟩,⟨5,.phase⟩,⟨6,.phase⟩,⟨7,.phase⟩],none⟩) rfl (fun K8 hK8=>?_) AllReadyIn.nil)
  go_simp
  refine hK8 _ _ ?_
  clear hK8 K8
  try simp only [Act.put,PuA]
  refine wpAnyIn_done (by kernel_rfl) ?_ _
  refine NoPanic.normal ?_
  exact h.out
end
end Go.Proofs.YtnffbmipllhjdaaGreatDoor
