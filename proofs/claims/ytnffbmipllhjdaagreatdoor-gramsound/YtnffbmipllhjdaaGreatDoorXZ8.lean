/- GramSound, part 8. -/
import Derived.Test.YtnffbmipllhjdaaGreatDoorXZ7
set_option linter.all false
set_option maxHeartbeats 8000000
namespace Go.Proofs.YtnffbmipllhjdaaGreatDoor
namespace G
open Go.RowKit Go.Shelf
attribute [local go_sem] Oper.semAt_some
section
variable {w w':World}{dst:Option Nat}{x y:Operand}{ty:TypeId}{pos:String}{after:Array Edge}
theorem Zm2 (ev:Operand->Value)(w:World)(hx:ev (.const (.agg #[.int .i64 0,.string { data:=#[] },.slice none 0 0]))=qV 0 [] (.slice none 0 0)):(execOp ev ⟨dst,.buildSlice 28 1 #[(0,.const (.agg #[.int .i64 0,.string { data:=#[] },.slice none 0 0]))],ty,pos,after,none⟩).run Tryz.prog w=.ok (.value (.slice (some ⟨w.heap.size,0,none⟩) 1 1)) (w.alloc (.cells (qA 0 [] (.slice none 0 0)) 30)):=by
 unfold execOp
 simp only [List.map_toArray,List.map_cons,List.map_nil,hx,Sem.run_bind,ZdK,Result.andThen_ok,Sem.run_pure]
theorem ZkK {ev:Operand->Value}{v v1 v6:Value}{w6:World}(hx:ev x=v)(hy:ev y=v1)(hr:(Builtin.append_ #[28,28] 28 #[v,v1]).run Tryz.prog w=.ok v6 w6):(execOp ev ⟨dst,.call { callee:=.builtin .append,args:=#[x,y],argTypes:=#[28,28] },28,pos,after,none⟩).run Tryz.prog w=.ok (.value v6) w6:=by
 simp [execOp,resolve,invoke,builtin,hx,hy,hr,Result.andThen]
theorem stT {o:Oper}(T:TypeId){ev:Operand->Value}{ad:Addr}{v6:Value}(ho:o.op=.store T x y)(hx:ev x=.pointer (some ad))(hy:ev y=v6)(hr:(storeVar T ad v6).run Tryz.prog w=.ok () w'):(execOp ev o).run Tryz.prog w=.ok .skip w':=by
 unfold execOp
 simp only [ho,hx,hy,Instr.storeAt,Instr.sureAddr,Sem.run_bind,Sem.run_pure,Result.andThen_ok,hr]
end
set_option maxRecDepth 100000 in
theorem ZjU (l0 n0:Nat)(w:World)(g7 g8:Nat)(va:Option Addr)(m vc:Nat)(o:Int)(t:Tx)(lv:Value)(hm:m<=1000000)(hv0:w.heap[g7]?=some (.cells #[.slice va m vc] 28 (0,0)))(h80:w.heap[g8]?=some (.cells (qA o t lv) 30 (0,0)))(Fin:World->Prop)(hpush0:∃ g9 c9 w6 w7 w7' w8 w8',(Builtin.append_ #[28,28] 28 #[.slice va m vc,.slice (some ⟨w.heap.size,0,none⟩) 1 1]).run Tryz.prog (w.drew.alloc (.cells (qA 0 [] (.slice none 0 0)) 30))=.ok (.slice (some ⟨g9,0,none⟩) (m+1) c9) w6/\(storeVar 30 ⟨g9,m * 3,none⟩ (qV o t lv)).run Tryz.prog w6=.ok () w7/\(storeVar 28 ⟨g7,0,none⟩ (.slice (some ⟨g9,0,none⟩) (m+1) c9)).run Tryz.prog w7=.ok () w8/\Fin w8/\(storeVar 28 ⟨g7,0,none⟩ (.slice (some ⟨g9,0,none⟩) (m+1) c9)).run Tryz.prog w6=.ok () w7'/\(storeVar 30 ⟨g9,m * 3,none⟩ (qV o t lv)).run Tryz.prog w7'=.ok () w8'/\Fin w8')
  (u0 u1 u2 u3 u4 u5 u6 u9 u10 u11 u12 u13 u14 u15 u16 u17 u18 u19 u20 u21 u22 u23 u24 u25 u26 u27 u28 u29 u30 u31 u32 u33 u34 u35 u36 u37 u38 u39 u40 u41 u42 u43 u44 u45 u46:Value) (Q:Exit->Act->World->Prop)
  (h:∀ (X24 X25:Value) (w':World),Fin w'->Q .normal { tmps:=(List.toArray ((u0::u1::u2::u3::u4::u5::u6::.pointer (some ⟨g7,0,none⟩)::.pointer (some ⟨g8,0,none⟩)::u9::u10::u11::u12::u13::u14::u15::u16::u17::u18::u19::.slice va m vc::qV o t lv::.int .i64 (m:Int)::.slice (some ⟨w.heap.size,0,none⟩) 1 1::X24::X25::u26::u27::u28::u29::u30::u31::u32::u33::u34::u35::u36::u37::u38::u39::u40::u41::u42::u43::u44::u45::u46::[]):List Value)),defers:=[] } w') :
  (Code.region 8 #[⟨some 20,.load 28 (.tmp 7),28,"query.go:64",#[],none⟩,⟨some 21,.load 30 (.tmp 8),30,"query.go:64",#[],none⟩,⟨some 22,.call { callee:=.builtin .len,args:=#[.tmp 20],argTypes:=#[28] },3,"query.go:64",#[⟨0,.data⟩],none⟩,⟨some 23,.buildSlice 28 1 #[(0,.const (.agg #[.int .i64 0,.string { data:=#[] },.slice none 0 0]))],28,"query.go:64",#[],none⟩,⟨some 24,.call { callee:=.builtin .append,args:=#[.tmp 20,.tmp 23],argTypes:=#[28,28] },28,"query.go:64",#[⟨0,.data⟩,⟨3,.data⟩,⟨0,.phase⟩,⟨1,.phase⟩,⟨2,.phase⟩,⟨3,.phase⟩],none⟩,⟨some 25,.indexAddr 28 (.tmp 24) (.tmp 22),0,"query.go:64",#[⟨4,.data⟩,⟨2,.data⟩,⟨0,.phase⟩,⟨1,.phase⟩,⟨2,.phase⟩,⟨3,.phase⟩,⟨4,.phase⟩,⟨7,.gcOnly .appendInPlace⟩],none⟩,⟨none,.store 30 (.tmp 25) (.tmp 21),0,"query.go:64",#[⟨5,.data⟩,⟨1,.data⟩,⟨4,.chain⟩,⟨0,.phase⟩,⟨1,.phase⟩,⟨2,.phase⟩,⟨3,.phase⟩,⟨4,.phase⟩,⟨7,.gcOnly .appendInPlace⟩],none⟩,⟨none,.store 28 (.tmp 7) (.tmp 24),0,"query.go:64",#[⟨4,.data⟩,⟨4,.chain⟩,⟨6,.textOnly .appendInPlace⟩,⟨0,.phase⟩,⟨1,.phase⟩,⟨2,.phase⟩,⟨3,.phase⟩,⟨4,.phase⟩,⟨5,.textOnly .appendInPlace⟩,⟨6,.textOnly .appendInPlace⟩],none⟩] true).wpIn (Fence.wide.inRound l0) n0 Tryz.prog Q { tmps:=(List.toArray ((u0::u1::u2::u3::u4::u5::u6::.pointer (some ⟨g7,0,none⟩)::.pointer (some ⟨g8,0,none⟩)::u9::u10::u11::u12::u13::u14::u15::u16::u17::u18::u19::u20::u21::u22::u23::u24::u25::u26::u27::u28::u29::u30::u31::u32::u33::u34::u35::u36::u37::u38::u39::u40::u41::u42::u43::u44::u45::u46::[]):List Value)),defers:=[] } w:=by
 have i1:(m:Int)<(m:Int)+1:=by omega
 have hD:Below w.heap.size w w.drew:=(Below.refl _ w).drew
 obtain⟨g9,c9,w6,w7,w7',w8,w8',hr6,s1,s2,f1,s3,s4,f2⟩:=hpush0
 replace hr6:=Zaa hr6
 replace s1:=Zaa s1
 replace s2:=Zaa s2
 replace s3:=Zaa s3
 replace s4:=Zaa s4
 replace f1:=Zaa f1
 replace f2:=Zaa f2
 have hv:Hid (∀ w1,Below w.heap.size w w1->w1.heap[g7]?=some (.cells #[.slice va m vc] 28 (0,0))):=fun w1 hb=>(hb.block g7 (Array.getElem?_eq_some_iff.1 hv0).1).trans hv0
 have h8:Hid (∀ w1,Below w.heap.size w w1->(loadVar 30 ⟨g8,0,none⟩).run Tryz.prog w1=.ok (qV o t lv) w1):=fun w1 hb=>ZaY ((hb.block g8 (Array.getElem?_eq_some_iff.1 h80).1).trans h80)
 clear hv0 h80
 replace h:=Zaa h
 refine Code.wpIn_mono NoPanic.imp ?_
 refine wpIn_region_any (by kernel_rfl) ?_
 change wpAnyIn _ _ _ _ _ _ _ _ _ (World.drew w)
 refine ZbN l0 (ZeQ _ (by kernel_rfl)) _ _ _ _ ?_
 refine wpAnyIn_ready (rs:=[0,1,3]) (by kernel_rfl) (by simp) ?_
 refine (AllReadyIn.cons (o:=⟨some 20,.load 28 (.tmp 7),28,"query.go:64",#[],none⟩) rfl (fun K0 hK0=>?_) (AllReadyIn.cons (o:=⟨some 21,.load 30 (.tmp 8),30,"query.go:64",#[],none⟩) rfl (fun K1 hK1=>?_) (AllReadyIn.cons (o:=⟨some 23,.buildSlice 28 1 #[(0,.const (.agg #[.int .i64 0,.string { data:=#[] },.slice none 0 0]))],28,"query.go:64",#[],none⟩) rfl (fun K3 hK3=>?_) AllReadyIn.nil)))
 ·refine ZaJ 28 Zad rfl (by rfl) rfl (ZiP (Zal (hv.out _ hD) 0 rfl)) (hK0 _ _ ?_)
  clear hK0 K0
  try simp only [Act.put,PuA]
  refine wpAnyIn_take (i:=2) (oi:=⟨some 22,.call { callee:=.builtin .len,args:=#[.tmp 20],argTypes:=#[28] },3,"query.go:64",#[⟨0,.data⟩],none⟩) (v:=?_) rfl rfl (by kernel_rfl) (by kernel_rfl) (by kernel_rfl) (fun _ _ _ h=>h) ⟨Or.inl ⟨by rfl,?_⟩,fun _=>rfl⟩ ?_
  rotate_left
  ·intro w'
   go_simp
   try with_reducible rfl
  try simp only [Act.put,PuA]
  refine wpAnyIn_ready (rs:=[1,3]) (by kernel_rfl) (by simp) ?_
  refine (AllReadyIn.cons (o:=⟨some 21,.load 30 (.tmp 8),30,"query.go:64",#[],none⟩) rfl (fun K1 hK1=>?_) (AllReadyIn.cons (o:=⟨some 23,.buildSlice 28 1 #[(0,.const (.agg #[.int .i64 0,.string { data:=#[] },.slice none 0 0]))],28,"query.go:64",#[],none⟩) rfl (fun K3 hK3=>?_) AllReadyIn.nil))
  ·refine ZaJ 30 Zad rfl (by rfl) rfl (h8.out _ hD) (hK1 _ _ ?_)
   clear hK1 K1
   try simp only [Act.put,PuA]
   refine wpAnyIn_ready (rs:=[3]) (by kernel_rfl) (by simp) ?_
   refine (AllReadyIn.cons (o:=⟨some 23,.buildSlice 28 1 #[(0,.const (.agg #[.int .i64 0,.string { data:=#[] },.slice none 0 0]))],28,"query.go:64",#[],none⟩) rfl (fun K3 hK3=>?_) AllReadyIn.nil)
   refine Zbw Zad (by rfl) (fun c=>nofun) (Zm2 _ _ rfl) (hK3 _ _ ?_)
   have E3:=hD.alloc (Nat.le_refl _) (.cells (qA 0 [] (.slice none 0 0)) 30)
   clear hK3 K3
   try simp only [Act.put,PuA]
   refine wpAnyIn_ready (rs:=[4]) (by kernel_rfl) (by simp) ?_
   refine (AllReadyIn.cons (o:=⟨some 24,.call { callee:=.builtin .append,args:=#[.tmp 20,.tmp 23],argTypes:=#[28,28] },28,"query.go:64",#[⟨0,.data⟩,⟨3,.data⟩,⟨0,.phase⟩,⟨1,.phase⟩,⟨2,.phase⟩,⟨3,.phase⟩],none⟩) rfl (fun K4 hK4=>?_) AllReadyIn.nil)
   refine Zbw Zad (by rfl) (fun c=>nofun) (ZkK rfl rfl hr6.out) (hK4 _ _ ?_)
   clear hK4 K4
   try simp only [Act.put,PuA]
   refine wpAnyIn_take (i:=5) (oi:=⟨some 25,.indexAddr 28 (.tmp 24) (.tmp 22),0,"query.go:64",#[⟨4,.data⟩,⟨2,.data⟩,⟨0,.phase⟩,⟨1,.phase⟩,⟨2,.phase⟩,⟨3,.phase⟩,⟨4,.phase⟩,⟨7,.gcOnly .appendInPlace⟩],none⟩) (v:=?_) rfl rfl (by kernel_rfl) (by kernel_rfl) (by kernel_rfl) (fun _ _ _ h=>h) ⟨Or.inl ⟨by rfl,?_⟩,fun _=>rfl⟩ ?_
   rotate_left
   ·intro w'
    go_simp
    try with_reducible rfl
   try simp only [Act.put,PuA]
   refine wpAnyIn_ready (rs:=[6,7]) (by kernel_rfl) (by simp) ?_
   refine (AllReadyIn.cons (o:=⟨none,.store 30 (.tmp 25) (.tmp 21),0,"query.go:64",#[⟨5,.data⟩,⟨1,.data⟩,⟨4,.chain⟩,⟨0,.phase⟩,⟨1,.phase⟩,⟨2,.phase⟩,⟨3,.phase⟩,⟨4,.phase⟩,⟨7,.gcOnly .appendInPlace⟩],none⟩) rfl (fun K6 hK6=>?_) (AllReadyIn.cons (o:=⟨none,.store 28 (.tmp 7) (.tmp 24),0,"query.go:64",#[⟨4,.data⟩,⟨4,.chain⟩,⟨6,.textOnly .appendInPlace⟩,⟨0,.phase⟩,⟨1,.phase⟩,⟨2,.phase⟩,⟨3,.phase⟩,⟨4,.phase⟩,⟨5,.textOnly .appendInPlace⟩,⟨6,.textOnly .appendInPlace⟩],none⟩) rfl (fun K7 hK7=>?_) AllReadyIn.nil))
   ·refine ZaP Zad (by rfl) (fun c=>nofun) (stT 30 rfl rfl rfl s1.out) (hK6 _ _ ?_)
    clear hK6 K6
    try simp only [Act.put,PuA]
    refine wpAnyIn_ready (rs:=[7]) (by kernel_rfl) (by simp) ?_
    refine (AllReadyIn.cons (o:=⟨none,.store 28 (.tmp 7) (.tmp 24),0,"query.go:64",#[⟨4,.data⟩,⟨4,.chain⟩,⟨6,.textOnly .appendInPlace⟩,⟨0,.phase⟩,⟨1,.phase⟩,⟨2,.phase⟩,⟨3,.phase⟩,⟨4,.phase⟩,⟨5,.textOnly .appendInPlace⟩,⟨6,.textOnly .appendInPlace⟩],none⟩) rfl (fun K7 hK7=>?_) AllReadyIn.nil)
    refine ZaP Zad (by rfl) (fun c=>nofun) (stT 28 rfl rfl rfl s2.out) (hK7 _ _ ?_)
    clear hK7 K7
    try simp only [Act.put,PuA]
    refine wpAnyIn_done (by kernel_rfl) ?_ _
    refine NoPanic.normal ?_
    exact h.out _ _ _ (by first|exact f1.out|exact f2.out)
   ·refine ZaP Zad (by rfl) (fun c=>nofun) (stT 28 rfl rfl rfl s3.out) (hK7 _ _ ?_)
    clear hK7 K7
    try simp only [Act.put,PuA]
    refine wpAnyIn_ready (rs:=[6]) (by kernel_rfl) (by simp) ?_
    refine (AllReadyIn.cons (o:=⟨none,.store 30 (.tmp 25) (.tmp 21),0,"query.go:64",#[⟨5,.data⟩,⟨1,.data⟩,⟨4,.chain⟩,⟨0,.phase⟩,⟨1,.phase⟩,⟨2,.phase⟩,⟨3,.phase⟩,⟨4,.phase⟩,⟨7,.gcOnly .appendInPlace⟩],none⟩) rfl (fun K6 hK6=>?_) AllReadyIn.nil)
    refine ZaP Zad (by rfl) (fun c=>nofun) (stT 30 rfl rfl rfl s4.out) (hK6 _ _ ?_)
    clear hK6 K6
    try simp only [Act.put,PuA]
    refine wpAnyIn_done (by kernel_rfl) ?_ _
    refine NoPanic.normal ?_
    exact h.out _ _ _ (by first|exact f1.out|exact f2.out)
  ·refine Zbw Zad (by rfl) (fun c=>nofun) (Zm2 _ _ rfl) (hK3 _ _ ?_)
   have E3:=hD.alloc (Nat.le_refl _) (.cells (qA 0 [] (.slice none 0 0)) 30)
   clear hK3 K3
   try simp only [Act.put,PuA]
   refine wpAnyIn_ready (rs:=[1]) (by kernel_rfl) (by simp) ?_
   refine (AllReadyIn.cons (o:=⟨some 21,.load 30 (.tmp 8),30,"query.go:64",#[],none⟩) rfl (fun K1 hK1=>?_) AllReadyIn.nil)
   refine ZaJ 30 Zad rfl (by rfl) rfl (h8.out _ E3) (hK1 _ _ ?_)
   clear hK1 K1
   try simp only [Act.put,PuA]
   refine wpAnyIn_ready (rs:=[4]) (by kernel_rfl) (by simp) ?_
   refine (AllReadyIn.cons (o:=⟨some 24,.call { callee:=.builtin .append,args:=#[.tmp 20,.tmp 23],argTypes:=#[28,28] },28,"query.go:64",#[⟨0,.data⟩,⟨3,.data⟩,⟨0,.phase⟩,⟨1,.phase⟩,⟨2,.phase⟩,⟨3,.phase⟩],none⟩) rfl (fun K4 hK4=>?_) AllReadyIn.nil)
   refine Zbw Zad (by rfl) (fun c=>nofun) (ZkK rfl rfl hr6.out) (hK4 _ _ ?_)
   clear hK4 K4
   try simp only [Act.put,PuA]
   refine wpAnyIn_take (i:=5) (oi:=⟨some 25,.indexAddr 28 (.tmp 24) (.tmp 22),0,"query.go:64",#[⟨4,.data⟩,⟨2,.data⟩,⟨0,.phase⟩,⟨1,.phase⟩,⟨2,.phase⟩,⟨3,.phase⟩,⟨4,.phase⟩,⟨7,.gcOnly .appendInPlace⟩],none⟩) (v:=?_) rfl rfl (by kernel_rfl) (by kernel_rfl) (by kernel_rfl) (fun _ _ _ h=>h) ⟨Or.inl ⟨by rfl,?_⟩,fun _=>rfl⟩ ?_
   rotate_left
   ·intro w'
    go_simp
    try with_reducible rfl
   try simp only [Act.put,PuA]
   refine wpAnyIn_ready (rs:=[6,7]) (by kernel_rfl) (by simp) ?_
   refine (AllReadyIn.cons (o:=⟨none,.store 30 (.tmp 25) (.tmp 21),0,"query.go:64",#[⟨5,.data⟩,⟨1,.data⟩,⟨4,.chain⟩,⟨0,.phase⟩,⟨1,.phase⟩,⟨2,.phase⟩,⟨3,.phase⟩,⟨4,.phase⟩,⟨7,.gcOnly .appendInPlace⟩],none⟩) rfl (fun K6 hK6=>?_) (AllReadyIn.cons (o:=⟨none,.store 28 (.tmp 7) (.tmp 24),0,"query.go:64",#[⟨4,.data⟩,⟨4,.chain⟩,⟨6,.textOnly .appendInPlace⟩,⟨0,.phase⟩,⟨1,.phase⟩,⟨2,.phase⟩,⟨3,.phase⟩,⟨4,.phase⟩,⟨5,.textOnly .appendInPlace⟩,⟨6,.textOnly .appendInPlace⟩],none⟩) rfl (fun K7 hK7=>?_) AllReadyIn.nil))
   ·refine ZaP Zad (by rfl) (fun c=>nofun) (stT 30 rfl rfl rfl s1.out) (hK6 _ _ ?_)
    clear hK6 K6
    try simp only [Act.put,PuA]
    refine wpAnyIn_ready (rs:=[7]) (by kernel_rfl) (by simp) ?_
    refine (AllReadyIn.cons (o:=⟨none,.store 28 (.tmp 7) (.tmp 24),0,"query.go:64",#[⟨4,.data⟩,⟨4,.chain⟩,⟨6,.textOnly .appendInPlace⟩,⟨0,.phase⟩,⟨1,.phase⟩,⟨2,.phase⟩,⟨3,.phase⟩,⟨4,.phase⟩,⟨5,.textOnly .appendInPlace⟩,⟨6,.textOnly .appendInPlace⟩],none⟩) rfl (fun K7 hK7=>?_) AllReadyIn.nil)
    refine ZaP Zad (by rfl) (fun c=>nofun) (stT 28 rfl rfl rfl s2.out) (hK7 _ _ ?_)
    clear hK7 K7
    try simp only [Act.put,PuA]
    refine wpAnyIn_done (by kernel_rfl) ?_ _
    refine NoPanic.normal ?_
    exact h.out _ _ _ (by first|exact f1.out|exact f2.out)
   ·refine ZaP Zad (by rfl) (fun c=>nofun) (stT 28 rfl rfl rfl s3.out) (hK7 _ _ ?_)
    clear hK7 K7
    try simp only [Act.put,PuA]
    refine wpAnyIn_ready (rs:=[6]) (by kernel_rfl) (by simp) ?_
    refine (AllReadyIn.cons (o:=⟨none,.store 30 (.tmp 25) (.tmp 21),0,"query.go:64",#[⟨5,.data⟩,⟨1,.data⟩,⟨4,.chain⟩,⟨0,.phase⟩,⟨1,.phase⟩,⟨2,.phase⟩,⟨3,.phase⟩,⟨4,.phase⟩,⟨7,.gcOnly .appendInPlace⟩],none⟩) rfl (fun K6 hK6=>?_) AllReadyIn.nil)
    refine ZaP Zad (by rfl) (fun c=>nofun) (stT 30 rfl rfl rfl s4.out) (hK6 _ _ ?_)
    clear hK6 K6
    try simp only [Act.put,PuA]
    refine wpAnyIn_done (by kernel_rfl) ?_ _
    refine NoPanic.normal ?_
    exact h.out _ _ _ (by first|exact f1.out|exact f2.out)
 ·refine ZaJ 30 Zad rfl (by rfl) rfl (h8.out _ hD) (hK1 _ _ ?_)
  clear hK1 K1
  try simp only [Act.put,PuA]
  refine wpAnyIn_ready (rs:=[0,3]) (by kernel_rfl) (by simp) ?_
  refine (AllReadyIn.cons (o:=⟨some 20,.load 28 (.tmp 7),28,"query.go:64",#[],none⟩) rfl (fun K0 hK0=>?_) (AllReadyIn.cons (o:=⟨some 23,.buildSlice 28 1 #[(0,.const (.agg #[.int .i64 0,.string { data:=#[] },.slice none 0 0]))],28,"query.go:64",#[],none⟩) rfl (fun K3 hK3=>?_) AllReadyIn.nil))
  ·refine ZaJ 28 Zad rfl (by rfl) rfl (ZiP (Zal (hv.out _ hD) 0 rfl)) (hK0 _ _ ?_)
   clear hK0 K0
   try simp only [Act.put,PuA]
   refine wpAnyIn_take (i:=2) (oi:=⟨some 22,.call { callee:=.builtin .len,args:=#[.tmp 20],argTypes:=#[28] },3,"query.go:64",#[⟨0,.data⟩],none⟩) (v:=?_) rfl rfl (by kernel_rfl) (by kernel_rfl) (by kernel_rfl) (fun _ _ _ h=>h) ⟨Or.inl ⟨by rfl,?_⟩,fun _=>rfl⟩ ?_
   rotate_left
   ·intro w'
    go_simp
    try with_reducible rfl
   try simp only [Act.put,PuA]
   refine wpAnyIn_ready (rs:=[3]) (by kernel_rfl) (by simp) ?_
   refine (AllReadyIn.cons (o:=⟨some 23,.buildSlice 28 1 #[(0,.const (.agg #[.int .i64 0,.string { data:=#[] },.slice none 0 0]))],28,"query.go:64",#[],none⟩) rfl (fun K3 hK3=>?_) AllReadyIn.nil)
   refine Zbw Zad (by rfl) (fun c=>nofun) (Zm2 _ _ rfl) (hK3 _ _ ?_)
   have E3:=hD.alloc (Nat.le_refl _) (.cells (qA 0 [] (.slice none 0 0)) 30)
   clear hK3 K3
   try simp only [Act.put,PuA]
   refine wpAnyIn_ready (rs:=[4]) (by kernel_rfl) (by simp) ?_
   refine (AllReadyIn.cons (o:=⟨some 24,.call { callee:=.builtin .append,args:=#[.tmp 20,.tmp 23],argTypes:=#[28,28] },28,"query.go:64",#[⟨0,.data⟩,⟨3,.data⟩,⟨0,.phase⟩,⟨1,.phase⟩,⟨2,.phase⟩,⟨3,.phase⟩],none⟩) rfl (fun K4 hK4=>?_) AllReadyIn.nil)
   refine Zbw Zad (by rfl) (fun c=>nofun) (ZkK rfl rfl hr6.out) (hK4 _ _ ?_)
   clear hK4 K4
   try simp only [Act.put,PuA]
   refine wpAnyIn_take (i:=5) (oi:=⟨some 25,.indexAddr 28 (.tmp 24) (.tmp 22),0,"query.go:64",#[⟨4,.data⟩,⟨2,.data⟩,⟨0,.phase⟩,⟨1,.phase⟩,⟨2,.phase⟩,⟨3,.phase⟩,⟨4,.phase⟩,⟨7,.gcOnly .appendInPlace⟩],none⟩) (v:=?_) rfl rfl (by kernel_rfl) (by kernel_rfl) (by kernel_rfl) (fun _ _ _ h=>h) ⟨Or.inl ⟨by rfl,?_⟩,fun _=>rfl⟩ ?_
   rotate_left
   ·intro w'
    go_simp
    try with_reducible rfl
   try simp only [Act.put,PuA]
   refine wpAnyIn_ready (rs:=[6,7]) (by kernel_rfl) (by simp) ?_
   refine (AllReadyIn.cons (o:=⟨none,.store 30 (.tmp 25) (.tmp 21),0,"query.go:64",#[⟨5,.data⟩,⟨1,.data⟩,⟨4,.chain⟩,⟨0,.phase⟩,⟨1,.phase⟩,⟨2,.phase⟩,⟨3,.phase⟩,⟨4,.phase⟩,⟨7,.gcOnly .appendInPlace⟩],none⟩) rfl (fun K6 hK6=>?_) (AllReadyIn.cons (o:=⟨none,.store 28 (.tmp 7) (.tmp 24),0,"query.go:64",#[⟨4,.data⟩,⟨4,.chain⟩,⟨6,.textOnly .appendInPlace⟩,⟨0,.phase⟩,⟨1,.phase⟩,⟨2,.phase⟩,⟨3,.phase⟩,⟨4,.phase⟩,⟨5,.textOnly .appendInPlace⟩,⟨6,.textOnly .appendInPlace⟩],none⟩) rfl (fun K7 hK7=>?_) AllReadyIn.nil))
   ·refine ZaP Zad (by rfl) (fun c=>nofun) (stT 30 rfl rfl rfl s1.out) (hK6 _ _ ?_)
    clear hK6 K6
    try simp only [Act.put,PuA]
    refine wpAnyIn_ready (rs:=[7]) (by kernel_rfl) (by simp) ?_
    refine (AllReadyIn.cons (o:=⟨none,.store 28 (.tmp 7) (.tmp 24),0,"query.go:64",#[⟨4,.data⟩,⟨4,.chain⟩,⟨6,.textOnly .appendInPlace⟩,⟨0,.phase⟩,⟨1,.phase⟩,⟨2,.phase⟩,⟨3,.phase⟩,⟨4,.phase⟩,⟨5,.textOnly .appendInPlace⟩,⟨6,.textOnly .appendInPlace⟩],none⟩) rfl (fun K7 hK7=>?_) AllReadyIn.nil)
    refine ZaP Zad (by rfl) (fun c=>nofun) (stT 28 rfl rfl rfl s2.out) (hK7 _ _ ?_)
    clear hK7 K7
    try simp only [Act.put,PuA]
    refine wpAnyIn_done (by kernel_rfl) ?_ _
    refine NoPanic.normal ?_
    exact h.out _ _ _ (by first|exact f1.out|exact f2.out)
   ·refine ZaP Zad (by rfl) (fun c=>nofun) (stT 28 rfl rfl rfl s3.out) (hK7 _ _ ?_)
    clear hK7 K7
    try simp only [Act.put,PuA]
    refine wpAnyIn_ready (rs:=[6]) (by kernel_rfl) (by simp) ?_
    refine (AllReadyIn.cons (o:=⟨none,.store 30 (.tmp 25) (.tmp 21),0,"query.go:64",#[⟨5,.data⟩,⟨1,.data⟩,⟨4,.chain⟩,⟨0,.phase⟩,⟨1,.phase⟩,⟨2,.phase⟩,⟨3,.phase⟩,⟨4,.phase⟩,⟨7,.gcOnly .appendInPlace⟩],none⟩) rfl (fun K6 hK6=>?_) AllReadyIn.nil)
    refine ZaP Zad (by rfl) (fun c=>nofun) (stT 30 rfl rfl rfl s4.out) (hK6 _ _ ?_)
    clear hK6 K6
    try simp only [Act.put,PuA]
    refine wpAnyIn_done (by kernel_rfl) ?_ _
    refine NoPanic.normal ?_
    exact h.out _ _ _ (by first|exact f1.out|exact f2.out)
  ·refine Zbw Zad (by rfl) (fun c=>nofun) (Zm2 _ _ rfl) (hK3 _ _ ?_)
   have E3:=hD.alloc (Nat.le_refl _) (.cells (qA 0 [] (.slice none 0 0)) 30)
   clear hK3 K3
   try simp only [Act.put,PuA]
   refine wpAnyIn_ready (rs:=[0]) (by kernel_rfl) (by simp) ?_
   refine (AllReadyIn.cons (o:=⟨some 20,.load 28 (.tmp 7),28,"query.go:64",#[],none⟩) rfl (fun K0 hK0=>?_) AllReadyIn.nil)
   refine ZaJ 28 Zad rfl (by rfl) rfl (ZiP (Zal (hv.out _ E3) 0 rfl)) (hK0 _ _ ?_)
   clear hK0 K0
   try simp only [Act.put,PuA]
   refine wpAnyIn_take (i:=2) (oi:=⟨some 22,.call { callee:=.builtin .len,args:=#[.tmp 20],argTypes:=#[28] },3,"query.go:64",#[⟨0,.data⟩],none⟩) (v:=?_) rfl rfl (by kernel_rfl) (by kernel_rfl) (by kernel_rfl) (fun _ _ _ h=>h) ⟨Or.inl ⟨by rfl,?_⟩,fun _=>rfl⟩ ?_
   rotate_left
   ·intro w'
    go_simp
    try with_reducible rfl
   try simp only [Act.put,PuA]
   refine wpAnyIn_ready (rs:=[4]) (by kernel_rfl) (by simp) ?_
   refine (AllReadyIn.cons (o:=⟨some 24,.call { callee:=.builtin .append,args:=#[.tmp 20,.tmp 23],argTypes:=#[28,28] },28,"query.go:64",#[⟨0,.data⟩,⟨3,.data⟩,⟨0,.phase⟩,⟨1,.phase⟩,⟨2,.phase⟩,⟨3,.phase⟩],none⟩) rfl (fun K4 hK4=>?_) AllReadyIn.nil)
   refine Zbw Zad (by rfl) (fun c=>nofun) (ZkK rfl rfl hr6.out) (hK4 _ _ ?_)
   clear hK4 K4
   try simp only [Act.put,PuA]
   refine wpAnyIn_take (i:=5) (oi:=⟨some 25,.indexAddr 28 (.tmp 24) (.tmp 22),0,"query.go:64",#[⟨4,.data⟩,⟨2,.data⟩,⟨0,.phase⟩,⟨1,.phase⟩,⟨2,.phase⟩,⟨3,.phase⟩,⟨4,.phase⟩,⟨7,.gcOnly .appendInPlace⟩],none⟩) (v:=?_) rfl rfl (by kernel_rfl) (by kernel_rfl) (by kernel_rfl) (fun _ _ _ h=>h) ⟨Or.inl ⟨by rfl,?_⟩,fun _=>rfl⟩ ?_
   rotate_left
   ·intro w'
    go_simp
    try with_reducible rfl
   try simp only [Act.put,PuA]
   refine wpAnyIn_ready (rs:=[6,7]) (by kernel_rfl) (by simp) ?_
   refine (AllReadyIn.cons (o:=⟨none,.store 30 (.tmp 25) (.tmp 21),0,"query.go:64",#[⟨5,.data⟩,⟨1,.data⟩,⟨4,.chain⟩,⟨0,.phase⟩,⟨1,.phase⟩,⟨2,.phase⟩,⟨3,.phase⟩,⟨4,.phase⟩,⟨7,.gcOnly .appendInPlace⟩],none⟩) rfl (fun K6 hK6=>?_) (AllReadyIn.cons (o:=⟨none,.store 28 (.tmp 7) (.tmp 24),0,"query.go:64",#[⟨4,.data⟩,⟨4,.chain⟩,⟨6,.textOnly .appendInPlace⟩,⟨0,.phase⟩,⟨1,.phase⟩,⟨2,.phase⟩,⟨3,.phase⟩,⟨4,.phase⟩,⟨5,.textOnly .appendInPlace⟩,⟨6,.textOnly .appendInPlace⟩],none⟩) rfl (fun K7 hK7=>?_) AllReadyIn.nil))
   ·refine ZaP Zad (by rfl) (fun c=>nofun) (stT 30 rfl rfl rfl s1.out) (hK6 _ _ ?_)
    clear hK6 K6
    try simp only [Act.put,PuA]
    refine wpAnyIn_ready (rs:=[7]) (by kernel_rfl) (by simp) ?_
    refine (AllReadyIn.cons (o:=⟨none,.store 28 (.tmp 7) (.tmp 24),0,"query.go:64",#[⟨4,.data⟩,⟨4,.chain⟩,⟨6,.textOnly .appendInPlace⟩,⟨0,.phase⟩,⟨1,.phase⟩,⟨2,.phase⟩,⟨3,.phase⟩,⟨4,.phase⟩,⟨5,.textOnly .appendInPlace⟩,⟨6,.textOnly .appendInPlace⟩],none⟩) rfl (fun K7 hK7=>?_) AllReadyIn.nil)
    refine ZaP Zad (by rfl) (fun c=>nofun) (stT 28 rfl rfl rfl s2.out) (hK7 _ _ ?_)
    clear hK7 K7
    try simp only [Act.put,PuA]
    refine wpAnyIn_done (by kernel_rfl) ?_ _
    refine NoPanic.normal ?_
    exact h.out _ _ _ (by first|exact f1.out|exact f2.out)
   ·refine ZaP Zad (by rfl) (fun c=>nofun) (stT 28 rfl rfl rfl s3.out) (hK7 _ _ ?_)
    clear hK7 K7
    try simp only [Act.put,PuA]
    refine wpAnyIn_ready (rs:=[6]) (by kernel_rfl) (by simp) ?_
    refine (AllReadyIn.cons (o:=⟨none,.store 30 (.tmp 25) (.tmp 21),0,"query.go:64",#[⟨5,.data⟩,⟨1,.data⟩,⟨4,.chain⟩,⟨0,.phase⟩,⟨1,.phase⟩,⟨2,.phase⟩,⟨3,.phase⟩,⟨4,.phase⟩,⟨7,.gcOnly .appendInPlace⟩],none⟩) rfl (fun K6 hK6=>?_) AllReadyIn.nil)
    refine ZaP Zad (by rfl) (fun c=>nofun) (stT 30 rfl rfl rfl s4.out) (hK6 _ _ ?_)
    clear hK6 K6
    try simp only [Act.put,PuA]
    refine wpAnyIn_done (by kernel_rfl) ?_ _
    refine NoPanic.normal ?_
    exact h.out _ _ _ (by first|exact f1.out|exact f2.out)
 ·refine Zbw Zad (by rfl) (fun c=>nofun) (Zm2 _ _ rfl) (hK3 _ _ ?_)
  have E3:=hD.alloc (Nat.le_refl _) (.cells (qA 0 [] (.slice none 0 0)) 30)
  clear hK3 K3
  try simp only [Act.put,PuA]
  refine wpAnyIn_ready (rs:=[0,1]) (by kernel_rfl) (by simp) ?_
  refine (AllReadyIn.cons (o:=⟨some 20,.load 28 (.tmp 7),28,"query.go:64",#[],none⟩) rfl (fun K0 hK0=>?_) (AllReadyIn.cons (o:=⟨some 21,.load 30 (.tmp 8),30,"query.go:64",#[],none⟩) rfl (fun K1 hK1=>?_) AllReadyIn.nil))
  ·refine ZaJ 28 Zad rfl (by rfl) rfl (ZiP (Zal (hv.out _ E3) 0 rfl)) (hK0 _ _ ?_)
   clear hK0 K0
   try simp only [Act.put,PuA]
   refine wpAnyIn_take (i:=2) (oi:=⟨some 22,.call { callee:=.builtin .len,args:=#[.tmp 20],argTypes:=#[28] },3,"query.go:64",#[⟨0,.data⟩],none⟩) (v:=?_) rfl rfl (by kernel_rfl) (by kernel_rfl) (by kernel_rfl) (fun _ _ _ h=>h) ⟨Or.inl ⟨by rfl,?_⟩,fun _=>rfl⟩ ?_
   rotate_left
   ·intro w'
    go_simp
    try with_reducible rfl
   try simp only [Act.put,PuA]
   refine wpAnyIn_ready (rs:=[1]) (by kernel_rfl) (by simp) ?_
   refine (AllReadyIn.cons (o:=⟨some 21,.load 30 (.tmp 8),30,"query.go:64",#[],none⟩) rfl (fun K1 hK1=>?_) AllReadyIn.nil)
   refine ZaJ 30 Zad rfl (by rfl) rfl (h8.out _ E3) (hK1 _ _ ?_)
   clear hK1 K1
   try simp only [Act.put,PuA]
   refine wpAnyIn_ready (rs:=[4]) (by kernel_rfl) (by simp) ?_
   refine (AllReadyIn.cons (o:=⟨some 24,.call { callee:=.builtin .append,args:=#[.tmp 20,.tmp 23],argTypes:=#[28,28] },28,"query.go:64",#[⟨0,.data⟩,⟨3,.data⟩,⟨0,.phase⟩,⟨1,.phase⟩,⟨2,.phase⟩,⟨3,.phase⟩],none⟩) rfl (fun K4 hK4=>?_) AllReadyIn.nil)
   refine Zbw Zad (by rfl) (fun c=>nofun) (ZkK rfl rfl hr6.out) (hK4 _ _ ?_)
   clear hK4 K4
   try simp only [Act.put,PuA]
   refine wpAnyIn_take (i:=5) (oi:=⟨some 25,.indexAddr 28 (.tmp 24) (.tmp 22),0,"query.go:64",#[⟨4,.data⟩,⟨2,.data⟩,⟨0,.phase⟩,⟨1,.phase⟩,⟨2,.phase⟩,⟨3,.phase⟩,⟨4,.phase⟩,⟨7,.gcOnly .appendInPlace⟩],none⟩) (v:=?_) rfl rfl (by kernel_rfl) (by kernel_rfl) (by kernel_rfl) (fun _ _ _ h=>h) ⟨Or.inl ⟨by rfl,?_⟩,fun _=>rfl⟩ ?_
   rotate_left
   ·intro w'
    go_simp
    try with_reducible rfl
   try simp only [Act.put,PuA]
   refine wpAnyIn_ready (rs:=[6,7]) (by kernel_rfl) (by simp) ?_
   refine (AllReadyIn.cons (o:=⟨none,.store 30 (.tmp 25) (.tmp 21),0,"query.go:64",#[⟨5,.data⟩,⟨1,.data⟩,⟨4,.chain⟩,⟨0,.phase⟩,⟨1,.phase⟩,⟨2,.phase⟩,⟨3,.phase⟩,⟨4,.phase⟩,⟨7,.gcOnly .appendInPlace⟩],none⟩) rfl (fun K6 hK6=>?_) (AllReadyIn.cons (o:=⟨none,.store 28 (.tmp 7) (.tmp 24),0,"query.go:64",#[⟨4,.data⟩,⟨4,.chain⟩,⟨6,.textOnly .appendInPlace⟩,⟨0,.phase⟩,⟨1,.phase⟩,⟨2,.phase⟩,⟨3,.phase⟩,⟨4,.phase⟩,⟨5,.textOnly .appendInPlace⟩,⟨6,.textOnly .appendInPlace⟩],none⟩) rfl (fun K7 hK7=>?_) AllReadyIn.nil))
   ·refine ZaP Zad (by rfl) (fun c=>nofun) (stT 30 rfl rfl rfl s1.out) (hK6 _ _ ?_)
    clear hK6 K6
    try simp only [Act.put,PuA]
    refine wpAnyIn_ready (rs:=[7]) (by kernel_rfl) (by simp) ?_
    refine (AllReadyIn.cons (o:=⟨none,.store 28 (.tmp 7) (.tmp 24),0,"query.go:64",#[⟨4,.data⟩,⟨4,.chain⟩,⟨6,.textOnly .appendInPlace⟩,⟨0,.phase⟩,⟨1,.phase⟩,⟨2,.phase⟩,⟨3,.phase⟩,⟨4,.phase⟩,⟨5,.textOnly .appendInPlace⟩,⟨6,.textOnly .appendInPlace⟩],none⟩) rfl (fun K7 hK7=>?_) AllReadyIn.nil)
    refine ZaP Zad (by rfl) (fun c=>nofun) (stT 28 rfl rfl rfl s2.out) (hK7 _ _ ?_)
    clear hK7 K7
    try simp only [Act.put,PuA]
    refine wpAnyIn_done (by kernel_rfl) ?_ _
    refine NoPanic.normal ?_
    exact h.out _ _ _ (by first|exact f1.out|exact f2.out)
   ·refine ZaP Zad (by rfl) (fun c=>nofun) (stT 28 rfl rfl rfl s3.out) (hK7 _ _ ?_)
    clear hK7 K7
    try simp only [Act.put,PuA]
    refine wpAnyIn_ready (rs:=[6]) (by kernel_rfl) (by simp) ?_
    refine (AllReadyIn.cons (o:=⟨none,.store 30 (.tmp 25) (.tmp 21),0,"query.go:64",#[⟨5,.data⟩,⟨1,.data⟩,⟨4,.chain⟩,⟨0,.phase⟩,⟨1,.phase⟩,⟨2,.phase⟩,⟨3,.phase⟩,⟨4,.phase⟩,⟨7,.gcOnly .appendInPlace⟩],none⟩) rfl (fun K6 hK6=>?_) AllReadyIn.nil)
    refine ZaP Zad (by rfl) (fun c=>nofun) (stT 30 rfl rfl rfl s4.out) (hK6 _ _ ?_)
    clear hK6 K6
    try simp only [Act.put,PuA]
    refine wpAnyIn_done (by kernel_rfl) ?_ _
    refine NoPanic.normal ?_
    exact h.out _ _ _ (by first|exact f1.out|exact f2.out)
  ·refine ZaJ 30 Zad rfl (by rfl) rfl (h8.out _ E3) (hK1 _ _ ?_)
   clear hK1 K1
   try simp only [Act.put,PuA]
   refine wpAnyIn_ready (rs:=[0]) (by kernel_rfl) (by simp) ?_
   refine (AllReadyIn.cons (o:=⟨some 20,.load 28 (.tmp 7),28,"query.go:64",#[],none⟩) rfl (fun K0 hK0=>?_) AllReadyIn.nil)
   refine ZaJ 28 Zad rfl (by rfl) rfl (ZiP (Zal (hv.out _ E3) 0 rfl)) (hK0 _ _ ?_)
   clear hK0 K0
   try simp only [Act.put,PuA]
   refine wpAnyIn_take (i:=2) (oi:=⟨some 22,.call { callee:=.builtin .len,args:=#[.tmp 20],argTypes:=#[28] },3,"query.go:64",#[⟨0,.data⟩],none⟩) (v:=?_) rfl rfl (by kernel_rfl) (by kernel_rfl) (by kernel_rfl) (fun _ _ _ h=>h) ⟨Or.inl ⟨by rfl,?_⟩,fun _=>rfl⟩ ?_
   rotate_left
   ·intro w'
    go_simp
    try with_reducible rfl
   try simp only [Act.put,PuA]
   refine wpAnyIn_ready (rs:=[4]) (by kernel_rfl) (by simp) ?_
   refine (AllReadyIn.cons (o:=⟨some 24,.call { callee:=.builtin .append,args:=#[.tmp 20,.tmp 23],argTypes:=#[28,28] },28,"query.go:64",#[⟨0,.data⟩,⟨3,.data⟩,⟨0,.phase⟩,⟨1,.phase⟩,⟨2,.phase⟩,⟨3,.phase⟩],none⟩) rfl (fun K4 hK4=>?_) AllReadyIn.nil)
   refine Zbw Zad (by rfl) (fun c=>nofun) (ZkK rfl rfl hr6.out) (hK4 _ _ ?_)
   clear hK4 K4
   try simp only [Act.put,PuA]
   refine wpAnyIn_take (i:=5) (oi:=⟨some 25,.indexAddr 28 (.tmp 24) (.tmp 22),0,"query.go:64",#[⟨4,.data⟩,⟨2,.data⟩,⟨0,.phase⟩,⟨1,.phase⟩,⟨2,.phase⟩,⟨3,.phase⟩,⟨4,.phase⟩,⟨7,.gcOnly .appendInPlace⟩],none⟩) (v:=?_) rfl rfl (by kernel_rfl) (by kernel_rfl) (by kernel_rfl) (fun _ _ _ h=>h) ⟨Or.inl ⟨by rfl,?_⟩,fun _=>rfl⟩ ?_
   rotate_left
   ·intro w'
    go_simp
    try with_reducible rfl
   try simp only [Act.put,PuA]
   refine wpAnyIn_ready (rs:=[6,7]) (by kernel_rfl) (by simp) ?_
   refine (AllReadyIn.cons (o:=⟨none,.store 30 (.tmp 25) (.tmp 21),0,"query.go:64",#[⟨5,.data⟩,⟨1,.data⟩,⟨4,.chain⟩,⟨0,.phase⟩,⟨1,.phase⟩,⟨2,.phase⟩,⟨3,.phase⟩,⟨4,.phase⟩,⟨7,.gcOnly .appendInPlace⟩],none⟩) rfl (fun K6 hK6=>?_) (AllReadyIn.cons (o:=⟨none,.store 28 (.tmp 7) (.tmp 24),0,"query.go:64",#[⟨4,.data⟩,⟨4,.chain⟩,⟨6,.textOnly .appendInPlace⟩,⟨0,.phase⟩,⟨1,.phase⟩,⟨2,.phase⟩,⟨3,.phase⟩,⟨4,.phase⟩,⟨5,.textOnly .appendInPlace⟩,⟨6,.textOnly .appendInPlace⟩],none⟩) rfl (fun K7 hK7=>?_) AllReadyIn.nil))
   ·refine ZaP Zad (by rfl) (fun c=>nofun) (stT 30 rfl rfl rfl s1.out) (hK6 _ _ ?_)
    clear hK6 K6
    try simp only [Act.put,PuA]
    refine wpAnyIn_ready (rs:=[7]) (by kernel_rfl) (by simp) ?_
    refine (AllReadyIn.cons (o:=⟨none,.store 28 (.tmp 7) (.tmp 24),0,"query.go:64",#[⟨4,.data⟩,⟨4,.chain⟩,⟨6,.textOnly .appendInPlace⟩,⟨0,.phase⟩,⟨1,.phase⟩,⟨2,.phase⟩,⟨3,.phase⟩,⟨4,.phase⟩,⟨5,.textOnly .appendInPlace⟩,⟨6,.textOnly .appendInPlace⟩],none⟩) rfl (fun K7 hK7=>?_) AllReadyIn.nil)
    refine ZaP Zad (by rfl) (fun c=>nofun) (stT 28 rfl rfl rfl s2.out) (hK7 _ _ ?_)
    clear hK7 K7
    try simp only [Act.put,PuA]
    refine wpAnyIn_done (by kernel_rfl) ?_ _
    refine NoPanic.normal ?_
    exact h.out _ _ _ (by first|exact f1.out|exact f2.out)
   ·refine ZaP Zad (by rfl) (fun c=>nofun) (stT 28 rfl rfl rfl s3.out) (hK7 _ _ ?_)
    clear hK7 K7
    try simp only [Act.put,PuA]
    refine wpAnyIn_ready (rs:=[6]) (by kernel_rfl) (by simp) ?_
    refine (AllReadyIn.cons (o:=⟨none,.store 30 (.tmp 25) (.tmp 21),0,"query.go:64",#[⟨5,.data⟩,⟨1,.data⟩,⟨4,.chain⟩,⟨0,.phase⟩,⟨1,.phase⟩,⟨2,.phase⟩,⟨3,.phase⟩,⟨4,.phase⟩,⟨7,.gcOnly .appendInPlace⟩],none⟩) rfl (fun K6 hK6=>?_) AllReadyIn.nil)
    refine ZaP Zad (by rfl) (fun c=>nofun) (stT 30 rfl rfl rfl s4.out) (hK6 _ _ ?_)
    clear hK6 K6
    try simp only [Act.put,PuA]
    refine wpAnyIn_done (by kernel_rfl) ?_ _
    refine NoPanic.normal ?_
    exact h.out _ _ _ (by first|exact f1.out|exact f2.out)
end G
namespace G
open Go.RowKit Go.Shelf
attribute [local go_sem] Oper.semAt_some
theorem ZhD {α β γ:Type} [DecidableEq γ] (f:β->γ)(g:α->β)(l:List α):∀ had:List γ,ZaL f had (l.map g)=(ZaL (fun x=>f (g x)) had l).map g:=by
 induction l with
 | nil=>intro _;rfl
 | cons x r ih =>
  intro had
  by_cases h:f (g x) ∈ had
  ·simp only [List.map_cons,ZaL,if_pos h,ih]
  ·simp only [List.map_cons,ZaL,if_neg h,ih]
theorem Zdt:∀ (l:List Qy)(q:Qy),(fq l).snoc q=fq (l++[q])
 | [],q=>rfl
 | x::r,q=>by simp [fq,Qf.snoc,Zdt r q]
theorem ZcG (l:List Qy):(fq l).len=l.length:=by rw [<- ZdE,Zgb]
def Zbi (z:Int)(l:List QP):List Qy:=(l.filter (fun x=>x.1.op≠z)).map (·.1)
theorem ZeZ (z:Int)(l:List QP)(x:QP):Zbi z (l++[x])=if x.1.op=z then Zbi z l else Zbi z l++[x.1]:=by
 unfold Zbi
 rw [List.filter_append]
 by_cases h:x.1.op=z <;> simp [h]
theorem Zda (z:Int)(l:List QP):(Zbi z l).length<=l.length:=by
 unfold Zbi
 rw [List.length_map]
 exact List.length_filter_le _ _
theorem Zm3 {op:Int}{l:List Qy}{M:List QP}(hM:M.map (·.1)=Zb0 op l)(h:∀ x ∈ ZaL tk [] M,x.1.op≠ZdF op):tg op l=Zfg (Zej op) op (Zbi (Zej op) (ZaL tk [] M)):=by
 unfold tg
 rw [<- hM,ZhD]
 rw [List.find?_eq_none.2 (fun q hq=>by
  obtain⟨x,hx,rfl⟩:=List.mem_map.1 hq
  simpa using h x hx)]
 simp only [Zbi,List.filter_map]
 rfl
theorem Zm4 {op:Int}{l:List Qy}{M:List QP}(hM:M.map (·.1)=Zb0 op l){pr:List QP}{x:QP}(hp:pr++[x] <+: ZaL tk [] M)(h:∀ y ∈ pr,y.1.op≠ZdF op)(hx:x.1.op=ZdF op):tg op l=x.1:=by
 unfold tg
 rw [<- hM,ZhD]
 obtain⟨t,ht⟩:=hp
 have ht2:ZaL (fun x:QP=>Qy.tell x.1) [] M=pr++[x]++t:=ht.symm
 rw [ht2]
 have:((pr++[x]++t).map (·.1)).find? (fun q=>q.op=ZdF op)=some x.1:=by
  rw [List.append_assoc,List.map_append,List.find?_append,List.find?_eq_none.2 (fun q hq=>by
   obtain⟨y,hy,rfl⟩:=List.mem_map.1 hq
   simpa using h y hy)]
  simp [hx]
 rw [this]
structure TgI (Pm:Nat->Prop) (w0:World) (g4 g5 g6 g7 base:Nat) (z r:Int) (left:List Qy) (W:World):Prop where
 row:∃ va vc xs,W.heap[g7]?=some (.cells #[.slice va left.length vc] 28 (0,0))/\W.ownsRow base 30 3 (.slice va left.length vc) left.length xs/\Kq W Pm (fq left) xs
 b4:W.heap[g4]?=some (.cells (qA 0 [] (.slice none 0 0)) 30 (0,0))
 b5:W.heap[g5]?=some (.cells #[.int .i64 z] 3 (0,0))
 b6:W.heap[g6]?=some (.cells #[.int .i64 r] 3 (0,0))
 bel:Below w0.heap.size w0 W
structure TgB (Pm:Nat->Prop) (w0:World) (g4 g5 g6 g7 base:Nat):Prop where
 h4:w0.heap.size<=g4/\g4<base/\g4≠g7
 h5:w0.heap.size<=g5/\g5<base/\g5≠g7
 h6:w0.heap.size<=g6/\g6<base/\g6≠g7
 h7:w0.heap.size<=g7/\g7<base
 old:∀ k,Pm k->k<w0.heap.size
theorem TgI.own {Pm:Nat->Prop}{w0:World}{g4 g5 g6 g7 base B:Nat}{z r:Int}{left:List Qy}{W W':World}{row:Option Nat}(h:TgI Pm w0 g4 g5 g6 g7 base z r left W)(hB:w0.heap.size<=B)(ho:∀ k,Pm k->k<w0.heap.size)(hg:W.grownBy W' row)(hr:∀ r,row=some r->B<=r/\∃ o:Obj,W.heap[r]?=some o/\o.isCells=false):TgI Pm w0 g4 g5 g6 g7 base z r left W':=by
 have ne:∀ (g:Nat) (xs:Array Value) (t:TypeId),W.heap[g]?=some (.cells xs t (0,0))->some g≠row:=fun g xs t h e=>by
  obtain⟨_,o,ho,hc⟩:=hr g e.symm
  rw [h] at ho
  cases ho
  cases hc
 have same:∀ (g:Nat) (xs:Array Value) (t:TypeId),W.heap[g]?=some (.cells xs t (0,0))->W'.heap[g]?=some (.cells xs t (0,0)):=fun g xs t h=>(hg.block g (Array.getElem?_eq_some_iff.1 h).1 (ne _ _ _ h)).trans h
 obtain⟨va,vc,xs,h1,h2,h3⟩:=h.row
 have hb:=h.bel.grown hg h.bel.size (fun k e=>by have:=(hr k e).1;omega)
 exact⟨⟨va,vc,xs,same _ _ _ h1,ZaC h2 (fun k hk=>by
  rcases h2.2 with⟨e,_⟩|⟨g,cap,cur,e,q2,q3,_⟩
  ·rw [e] at hk;cases hk
  ·rw [e] at hk;cases hk;rw [same _ _ _ q3,q3]),h3.kept (fun b hp hl=>by rw [hb.block b (ho b hp),h.bel.block b (ho b hp)])⟩,same _ _ _ h.b4,same _ _ _ h.b5,same _ _ _ h.b6,hb⟩
theorem TgI.below {Pm:Nat->Prop}{w0:World}{g4 g5 g6 g7 base:Nat}{z r:Int}{left:List Qy}{W W':World}(h:TgI Pm w0 g4 g5 g6 g7 base z r left W)(ho:∀ k,Pm k->k<w0.heap.size)(hb:Below W.heap.size W W'):TgI Pm w0 g4 g5 g6 g7 base z r left W' :=
 h.own (Nat.le_refl _) ho (ZbV hb) (fun r e=>by cases e)
theorem Zdk (w:World)(g o:Nat)(q:Int)(t:Tx)(v:Value)(cur:Array Value)(hg:w.heap[g]?=some (.cells cur 30 (0,0)))(hv:v.oneCell'=true)(hfit:o+3<=cur.size):(storeVar 30 ⟨g,o,none⟩ (qV q t v)).run Tryz.prog w=.ok () (w.setRow g (cur.toList.take o++(qA q t v).toList++cur.toList.drop (o+3)).toArray):=by
 have hst:=run_storeCells_at Tryz.prog g o 30 (qA q t v).toList 0 cur w hg (by simpa [qA] using hfit) (fun u hu=>Array.all_eq_true'.1 (ZeY hv) u (by simpa using hu))
 have hz:∀ w,(sizeOf 30).run Tryz.prog w=.ok 3 w:=fun w=>by kernel_rfl
 have hcs:(qV q t v).cells=qA q t v:=rfl
 unfold storeVar
 simp only [Sem.run_bind,hz,Result.andThen_ok,hcs]
 simpa [qA] using hst
theorem one28':∀ w,(sizeOf 28).run Tryz.prog w=.ok 1 w:=fun w=>by kernel_rfl
theorem Ze0 {w:World}{g:Nat}{u v:Value}(h:w.heap[g]?=some (.cells #[u] 28 (0,0)))(hv:v.oneCell'=true):(storeVar 28 ⟨g,0,none⟩ v).run Tryz.prog w=.ok () (w.setCell ⟨g,0,none⟩ v):=by
 have hc:=Zal h 0 (v:=u) rfl
 have hf:=frozen_of_row w g 0 _ 28 h
 have hcs:v.cells=#[v]:=by cases v <;> first|rfl|cases hv
 have e:(storeCells ⟨g,0,none⟩ [v]).run Tryz.prog w=.ok () (w.setCell ⟨g,0,none⟩ v):=by simp [storeCells,go_sem,run_store Tryz.prog w _ v _ hv,stored,hc,hf]
 unfold storeVar
 simp only [Sem.run_bind,one28',Result.andThen_ok,hcs]
 simpa using e
theorem TgI.push {Pm:Nat->Prop}{w0:World}{g4 g5 g6 g7 base:Nat}{z r:Int}{left:List Qy}{W:World}(h:TgI Pm w0 g4 g5 g6 g7 base z r left W)(hB:TgB Pm w0 g4 g5 g6 g7 base)(hb:base<=W.heap.size+1)(hl:left.length<=1000000)(x:QP)(hx:QyV W Pm (encP x) x.1) :
  ∃ va vc,W.heap[g7]?=some (.cells #[.slice va left.length vc] 28 (0,0))/\∃ g9 c9 w6 w7 w7' w8 w8',(Builtin.append_ #[28,28] 28 #[.slice va left.length vc,.slice (some ⟨W.heap.size,0,none⟩) 1 1]).run Tryz.prog (W.drew.alloc (.cells (qA 0 [] (.slice none 0 0)) 30))=.ok (.slice (some ⟨g9,0,none⟩) (left.length+1) c9) w6/\(storeVar 30 ⟨g9,left.length * 3,none⟩ (qV x.1.op x.1.tx x.2)).run Tryz.prog w6=.ok () w7/\(storeVar 28 ⟨g7,0,none⟩ (.slice (some ⟨g9,0,none⟩) (left.length+1) c9)).run Tryz.prog w7=.ok () w8/\(TgI Pm w0 g4 g5 g6 g7 base z r (left++[x.1]) w8/\But (fun k=>k=g7\/base<=k/\∃ cur,W.heap[k]?=some (Obj.cells cur 30 (0,0))) W w8)/\(storeVar 28 ⟨g7,0,none⟩ (.slice (some ⟨g9,0,none⟩) (left.length+1) c9)).run Tryz.prog w6=.ok () w7'/\(storeVar 30 ⟨g9,left.length * 3,none⟩ (qV x.1.op x.1.tx x.2)).run Tryz.prog w7'=.ok () w8'/\(TgI Pm w0 g4 g5 g6 g7 base z r (left++[x.1]) w8'/\But (fun k=>k=g7\/base<=k/\∃ cur,W.heap[k]?=some (Obj.cells cur 30 (0,0))) W w8'):=by
 obtain⟨va,vc,xs,h1,h2,h3⟩:=h.row
 refine⟨va,vc,h1,?_⟩
 obtain⟨i,hi,hz,hs,hby⟩:=info_parts infoQ
 have l7:=(Array.getElem?_eq_some_iff.1 h1).1
 have hold:∀ b,b<W.heap.size->(W.drew.alloc (.cells (qA 0 [] (.slice none 0 0)) 30)).heap[b]?=W.heap[b]?:=fun b hb=>Below.heap_alloc W.drew _ _ hb
 have ho1:(W.drew.alloc (.cells (qA 0 [] (.slice none 0 0)) 30)).ownsRow base 30 3 (.slice va left.length vc) left.length xs:=ZaC h2 (fun k hk=>hold k (Zaz h2 hk).2)
 obtain⟨v',w6,r1,r2,r3,_,r5⟩:=run_append_own_at (P:=Tryz.prog) (W.drew.alloc (.cells (qA 0 [] (.slice none 0 0)) 30)) base 28 28 30 i (qV 0 [] (.slice none 0 0)) 3 48 Tryz.underlying28 hi hz hs hby rfl (by decide) (.slice va left.length vc) left.length xs ho1 ⟨W.heap.size,0,none⟩ 1 1 (qA 0 [] (.slice none 0 0)).toList rfl (fun j u hj=>by
  rw [Zav,Nat.zero_add,cell_of_row _ _ _ _ _ _ (show (W.drew.alloc (.cells (qA 0 [] (.slice none 0 0)) 30)).heap[W.heap.size]?=some (.cells (qA 0 [] (.slice none 0 0)) 30 (0,0)) from heap_alloc_new W.drew _)]
  simpa using hj) (fun u hu=>Array.all_eq_true'.1 (ZeY rfl) u (by simpa using hu)) (by unfold maxLen;omega) (by omega) (by simp;omega)
 have hvb:∀ k,(Value.slice va left.length vc).ownBlock=some k->base<=k/\∃ cur,W.heap[k]?=some (Obj.cells cur 30 (0,0)):=fun k e=>by
  rcases h2.2 with⟨e0,_⟩|⟨g,cap,cur,e0,q1,q2,_⟩
  ·rw [e0] at e;cases e
  ·rw [e0] at e;cases e;exact⟨q1,cur,q2⟩
 obtain⟨hl2,hr2⟩:=r2
 rcases hr2 with⟨_,h0⟩|⟨g9,c9,cur,rfl,q1,q2,q3,q4,q5,q6⟩
 ·omega
 have hnw:∀ k,k<W.heap.size->(Value.slice va left.length vc).ownBlock≠some k->w6.heap[k]?=W.heap[k]?:=fun k hk hn=>(r3.block k (by simp;omega) (fun e=>hn e.symm)).trans (hold k hk)
 have hne:g9≠g7:=fun e=>by have:=hB.h7.2;omega
 have e7:w6.heap[g7]?=some (.cells #[.slice va left.length vc] 28 (0,0)):=(hnw g7 l7 (fun e=>by have:=(hvb g7 e).1;have:=hB.h7.2;omega)).trans h1
 have hsz:=r3.size
 simp at hsz
 have hcl:(left.length+1) * 3<=cur.size:=by omega
 have hxo:=x.h
 obtain⟨cur',hcur'⟩:∃ cur',cur'=(cur.toList.take (left.length * 3)++(qA x.1.op x.1.tx x.2).toList++cur.toList.drop (left.length * 3+3)).toArray:=⟨_,rfl⟩
 have s1:=Zdk w6 g9 (left.length * 3) x.1.op x.1.tx x.2 cur q2 hxo (by omega)
 rw [<- hcur'] at s1
 have s2:=Ze0 (v:=.slice (some ⟨g9,0,none⟩) (left.length+1) c9) ((setRow_other w6 g9 _ cur' (fun e=>hne e.symm)).trans e7) rfl
 have s3:=Ze0 (v:=.slice (some ⟨g9,0,none⟩) (left.length+1) c9) e7 rfl
 have q2':(w6.setCell ⟨g7,0,none⟩ (.slice (some ⟨g9,0,none⟩) (left.length+1) c9)).heap[g9]?=some (.cells cur 30 (0,0)):=(Below.heap_setCell w6 ⟨g7,0,none⟩ _ g9 hne).trans q2
 have s4:=Zdk _ g9 (left.length * 3) x.1.op x.1.tx x.2 cur q2' hxo (by omega)
 rw [<- hcur'] at s4
 have fin:∀ W',W'.os=w6.os->W'.tape=w6.tape->W'.output=w6.output->W'.heap.size=w6.heap.size->(∀ k,k≠g7->k≠g9->W'.heap[k]?=w6.heap[k]?)->W'.heap[g7]?=some (.cells #[.slice (some ⟨g9,0,none⟩) (left.length+1) c9] 28 (0,0))->W'.heap[g9]?=some (.cells cur' 30 (0,0)) ->
   TgI Pm w0 g4 g5 g6 g7 base z r (left++[x.1]) W'/\But (fun k=>k=g7\/base<=k/\∃ cur,W.heap[k]?=some (Obj.cells cur 30 (0,0))) W W':=fun W' a1 a2 a3 a4 a5 a6 a7=>by
  have hB9:∀ k,k<W.heap.size->¬ (k=g7\/base<=k/\∃ cur,W.heap[k]?=some (Obj.cells cur 30 (0,0)))->k≠g7/\k≠g9/\w6.heap[k]?=W.heap[k]?:=fun k hk hn=>by
   have hn2:(Value.slice va left.length vc).ownBlock≠some k:=fun e=>hn (.inr (hvb k e))
   refine⟨fun e=>hn (.inl e),fun e=>?_,hnw k hk hn2⟩
   rcases r5 with r5|r5
   ·rw [<- e] at r5
    exact hn2 (r5.symm.trans rfl)
   ·have:g9=(W.drew.alloc (.cells (qA 0 [] (.slice none 0 0)) 30)).heap.size:=by cases r5;rfl
    simp at this
    omega
  have hBut:But (fun k=>k=g7\/base<=k/\∃ cur,W.heap[k]?=some (Obj.cells cur 30 (0,0))) W W':=⟨a1.trans r3.os,a2.trans r3.tape,a3.trans r3.output,by omega,fun k hk hn=>by
   obtain⟨b1,b2,b3⟩:=hB9 k hk hn
   exact (a5 k b1 b2).trans b3⟩
  have hbel:Below w0.heap.size W W':=hBut.below h.bel.size (fun k e=>by
   have:=hB.h7
   omega)
  have old:∀ g,g<base->g≠g7->g<W.heap.size->W'.heap[g]?=W.heap[g]?:=fun g hg h7 hl=>hBut.block g hl (fun e=>by rcases e with e|⟨e,_⟩;exact h7 e;omega)
  obtain⟨v,zs,e,o2,p2,k2⟩:=hx
  have e2:x.2=v:=by
   have:qA x.1.op x.1.tx x.2=qA x.1.op x.1.tx v:=by simpa [encP,qV] using e
   simpa [qA] using this
  have keepP:∀ b,Pm b->W'.heap[b]?=W.heap[b]?:=fun b hb=>hbel.block b (hB.old b hb)
  refine⟨⟨?_,by rw [old g4 hB.h4.2.1 hB.h4.2.2 (Array.getElem?_eq_some_iff.1 h.b4).1];exact h.b4,by rw [old g5 hB.h5.2.1 hB.h5.2.2 (Array.getElem?_eq_some_iff.1 h.b5).1];exact h.b5,by rw [old g6 hB.h6.2.1 hB.h6.2.2 (Array.getElem?_eq_some_iff.1 h.b6).1];exact h.b6,h.bel.trans hbel⟩,hBut⟩
  have hll:(left++[x.1]).length=left.length+1:=by simp
  rw [hll]
  refine⟨_,_,xs++(qA x.1.op x.1.tx x.2).toList,a6,⟨by rw [List.length_append,h2.1];simp [qA];omega,.inr ⟨g9,c9,cur',rfl,q1,a7,q3,q4,?_,?_⟩⟩,?_⟩
  ·rw [hcur']
   simp only [List.size_toArray,List.length_append,List.length_take,List.length_drop,Array.length_toList]
   have:(qA x.1.op x.1.tx x.2).size=3:=rfl
   omega
  ·rw [hcur']
   have hx1:cur.toList.take (left.length * 3)=xs:=by
    have:=congrArg (List.take (left.length * 3)) q6
    rw [List.take_take,Nat.min_eq_left (by omega),List.take_append_of_le_length (by rw [h2.1];exact Nat.le_refl _),show xs.take (left.length * 3)=xs from List.take_of_length_le (by rw [h2.1];exact Nat.le_refl _)] at this
    exact this
   rw [hx1]
   refine (List.take_append_of_le_length (by rw [List.length_append,h2.1];simp [qA];omega)).trans (List.take_of_length_le (by rw [List.length_append,h2.1];simp [qA];omega))
  ·rw [<- Zdt,e2]
   exact Kq.snoc (ZaC o2 (fun k hk=>keepP k (p2 k hk))) p2 (k2.kept (fun b hb _=>keepP b hb)) (h3.kept (fun b hb _=>keepP b hb))
 refine⟨g9,c9,w6,_,_,_,_,r1,s1,s2,?_,s3,s4,?_⟩
 ·exact fin _ rfl rfl rfl (by simp [World.setCell]) (fun k h7 h9=>(Below.heap_setCell _ ⟨g7,0,none⟩ _ k h7).trans (setRow_other _ _ _ _ h9)) (heap_setCell_same _ g7 0 _ 28 _ ((setRow_other w6 g9 _ cur' (fun e=>hne e.symm)).trans e7)) ((Below.heap_setCell _ ⟨g7,0,none⟩ _ g9 hne).trans (setRow_heap _ _ _ _ 30 (0,0) q2))
 ·exact fin _ rfl rfl rfl (by simp [World.setCell]) (fun k h7 h9=>(setRow_other _ _ _ _ h9).trans (Below.heap_setCell _ ⟨g7,0,none⟩ _ k h7)) ((setRow_other _ g9 _ cur' (fun e=>hne e.symm)).trans (heap_setCell_same _ g7 0 _ 28 _ e7)) (setRow_heap _ _ _ _ 30 (0,0) q2')
end G
namespace G
open Go.RowKit Go.Shelf
attribute [local go_sem] Oper.semAt_some
theorem ZhE (n:Nat)(op:Int)(va:Option Addr)(m vc:Nat)(w:World):CallsIn Fence.wide n Tryz.prog 185 #[.int .i64 op,.slice va m vc] w fun e w'=>e=.returned (.func (.func 218) #[] #[.pointer (some ⟨w.heap.size+1,0,none⟩),.pointer (some ⟨w.heap.size,0,none⟩)])/\w'=(w.alloc (.cells #[.int .i64 op] 3)).alloc (.cells #[.slice va m vc] 28):=by
 have hmf:∀ (fn:Fn) (first cap:Array Value) (w:World),(Instr.makeFunc fn first cap).run Tryz.prog w=.ok (.func fn first cap) w:=fun _ _ _ _=>rfl
 refine callsIn_of_wp Tryz.func185 rfl trivial ?_ rfl
 simp only [Tryz.ntmps185,List.size_toArray,List.length_cons,List.length_nil,Nat.reduceAdd,Nat.reduceSub,Array.replicate_succ,Array.replicate_zero,List.push_toArray,List.append_toArray,List.nil_append,List.cons_append]
 gi_wp2
 go_ret
 exact⟨by simp,rfl⟩
theorem Zei (n:Nat)(v1 v2:Value)(w:World)(h1:∃ f xs ys,v1=.func f xs ys)(h2:∃ f xs ys,v2=.func f xs ys):CallsIn Fence.wide n Tryz.prog 184 #[v1,v2] w fun e w'=>e=.returned (.func (.func 217) #[] #[.pointer (some ⟨w.heap.size,0,none⟩),.pointer (some ⟨w.heap.size+1,0,none⟩)])/\w'=(w.alloc (.cells #[v1] 243)).alloc (.cells #[v2] 49):=by
 obtain⟨f1,x1,y1,rfl⟩:=h1
 obtain⟨f2,x2,y2,rfl⟩:=h2
 have hmf:∀ (fn:Fn) (first cap:Array Value) (w:World),(Instr.makeFunc fn first cap).run Tryz.prog w=.ok (.func fn first cap) w:=fun _ _ _ _=>rfl
 refine callsIn_of_wp Tryz.func184 rfl trivial ?_ rfl
 simp only [Tryz.ntmps184,List.size_toArray,List.length_cons,List.length_nil,Nat.reduceAdd,Nat.reduceSub,Array.replicate_succ,Array.replicate_zero,List.push_toArray,List.append_toArray,List.nil_append,List.cons_append]
 gi_wp2
 go_ret
 exact⟨by simp,rfl⟩
theorem MsOk.kc {X Y:Nat->Prop}{w w':World}{op:Int}{va:Option Addr}{mss:List QM}(h:MsOk Y w op va mss)(hk:Kc Y w w')(hXY:∀ k,X k->Y k):MsOk X w' op va mss:=by
 have up:∀ {a b:World},Kc X a b->Kc Y a b:=fun h=>⟨h.1,fun k cs t fr hn e=>h.2 k cs t fr (fun hx=>hn (hXY k hx)) e⟩
 refine⟨fun i y hy=>?_,fun y hy=>?_⟩
 ·obtain⟨g,e,hl⟩:=h.row i y hy
  exact⟨g,e,fun w'' hk2=>hl w'' (hk.trans (up hk2))⟩
 ·obtain⟨ua,un,uc,e,h1,h2⟩:=h.mem y hy
  exact⟨ua,un,uc,e,fun ho=>⟨(h1 ho).1,fun j w'' hk2=>(h1 ho).2 j w'' (hk.trans (up hk2))⟩,h2⟩
theorem ZdL (X:Nat->Prop)(n:Nat)(hn:1<=n)(Bl Bo:Nat)(op:Int)(va:Option Addr)(vc:Nat)(mss:List QM)(hX1:¬ X Bl)(hX2:¬ X Bo)(w:World)(hM:MsOk X w op va mss)(hlen:mss.length<=1000000)(hml:∀ y ∈ mss,y.2.length<=1000000)
  (hBl:w.heap[Bl]?=some (.cells #[.slice va mss.length vc] 28 (0,0))) (hBo:w.heap[Bo]?=some (.cells #[.int .i64 op] 3 (0,0))) :
  SeqB 0 Fence.wide n Tryz.prog 218 #[.pointer (some ⟨Bl,0,none⟩),.pointer (some ⟨Bo,0,none⟩)] encQ (fun _=>Kc X) (fun ys=>ys=flatM mss) (fun pre=>pre <+: flatM mss) (fun pre x=>pre++[x] <+: flatM mss) w:=fun l J Jx W hW hJ _ hY h0 =>
 ZkJ X n hn l Bl Bo op va vc mss hX1 hX2 J Jx W hY hJ (hM.kc (Zek hW) (fun _ h=>h)) hlen ((hW.block Bl (Array.getElem?_eq_some_iff.1 hBl).1).trans hBl) ((hW.block Bo (Array.getElem?_eq_some_iff.1 hBo).1).trans hBo) h0 hml
section
variable {F:Fence}{n:Nat}{w w':World}{ops:Array Oper}{rest:List Oper}{a:Act}{Q:Exit->Act->World->Prop}{dst:Option Nat}{x y:Operand}{ty:TypeId}{pos:String}{after:Array Edge}
theorem Zbz (hF:∀ f,F.fn f){g:Nat}{o o':Int}{t t':Tx}{l l':Value}(hg:w.heap[g]?=some (.cells (qA o t l) 30 (0,0)))(hx:a.eval x=.pointer (some ⟨g,0,none⟩))(hy:a.eval y=qV o' t' l')(hl:l'.oneCell'=true)(h:∀ w',w'.heap[g]?=some (.cells (qA o' t' l') 30 (0,0))->But (fun k=>k=g) w w'->w'.heap.size=w.heap.size->wpListIn F n Tryz.prog ops Q rest a w'):wpListIn F n Tryz.prog ops Q (⟨none,.store 30 x y,ty,pos,after,none⟩::rest) a w:=by
 refine Za4 (w':=w.setRow g (qA o' t' l')) hF (fun c=>nofun) ?_ (h _ (setRow_heap _ _ _ _ 30 (0,0) hg) ((But.refl (fun k=>k=g) w).setRow (fun _=>rfl) _) (by simp))
 unfold execOp
 simp only [hx,hy,Instr.storeAt,Instr.sureAddr,Sem.run_bind,Sem.run_pure,Result.andThen_ok,ZcB hg hl]
theorem Zbx (h:wpListIn F n Tryz.prog ops Q (⟨dst,.store 30 x y,ty,pos,after,none⟩::rest) a w):wpListIn F n Tryz.prog ops Q (⟨dst,.store 30 x y,ty,pos,after,none⟩::rest) a w:=h
theorem ZcC {ps:Array (Nat × Operand)}(h:wpListIn F n Tryz.prog ops Q (⟨dst,.build 30 ps,ty,pos,after,none⟩::rest) a w):wpListIn F n Tryz.prog ops Q (⟨dst,.build 30 ps,ty,pos,after,none⟩::rest) a w:=h
theorem Zb2 (ev:Operand->Value)(o:Int)(h0:ev x=.int .i64 o)(w:World):(execOp ev ⟨dst,.build 30 #[(0,x)],ty,pos,after,none⟩).run Tryz.prog w=.ok (.value (qV o [] (.slice none 0 0))) w:=by
 unfold execOp
 simp only [List.map_toArray,List.map_cons,List.map_nil,h0]
 kernel_rfl
theorem ZdM (ev:Operand->Value)(o:Int)(va:Option Addr)(m vc:Nat)(h0:ev x=.int .i64 o)(h1:ev y=.slice va m vc)(w:World):(execOp ev ⟨dst,.build 30 #[(0,x),(2,y)],ty,pos,after,none⟩).run Tryz.prog w=.ok (.value (qV o [] (.slice va m vc))) w:=by
 unfold execOp
 simp only [List.map_toArray,List.map_cons,List.map_nil,h0,h1]
 kernel_rfl
theorem Zgr (ev:Operand->Value)(t:Tx)(hz:ev x=.int .i64 2)(h1:ev y=encStr t)(w:World):(execOp ev ⟨dst,.build 30 #[(0,x),(1,y)],ty,pos,after,none⟩).run Tryz.prog w=.ok (.value (qV 2 t (.slice none 0 0))) w:=by
 unfold execOp
 simp only [List.map_toArray,List.map_cons,List.map_nil,hz,h1]
 kernel_rfl
variable {S:Nat->Prop}{w0:World}{L:List Ent}
theorem ZaO (t:TypeId)(h:wpListIn F n Tryz.prog ops Q (⟨dst,.alloc t,ty,pos,after,none⟩::rest) a w):wpListIn F n Tryz.prog ops Q (⟨dst,.alloc t,ty,pos,after,none⟩::rest) a w:=h
theorem Zay (t:TypeId)(h:wpListIn F n Tryz.prog ops Q (⟨dst,.store t x y,ty,pos,after,none⟩::rest) a w):wpListIn F n Tryz.prog ops Q (⟨dst,.store t x y,ty,pos,after,none⟩::rest) a w:=h
theorem ZfD (t:TypeId)(zs:Array Value)(hF:∀ f,F.fn f)(H:St S w0 w L)(hz:∀ w,(execOp a.eval ⟨dst,.alloc t,ty,pos,after,none⟩).run Tryz.prog w=.ok (.value (.pointer (some ⟨w.heap.size,0,none⟩))) (w.alloc (.cells zs t)))
  (h:∀ g w',g=w.heap.size->w'.heap.size=w.heap.size+1->St S w0 w' ((true,g,t,zs)::L)->wpListIn F n Tryz.prog ops Q rest (a.put dst (.pointer (some ⟨g,0,none⟩))) w'):wpListIn F n Tryz.prog ops Q (⟨dst,.alloc t,ty,pos,after,none⟩::rest) a w :=
 ZaF hF (fun c=>nofun) (hz w) (h _ _ rfl (by simp) (H.alloc t zs))
theorem Zdb (i:Nat)(t:TypeId)(hF:∀ f,F.fn f)(H:St S w0 w L){g:Nat}{u v:Value}(h:L[i]?=some (true,g,t,#[u]))(hx:a.eval x=.pointer (some ⟨g,0,none⟩))(hy:a.eval y=v)(hi:∀ w,(sizeOf t).run Tryz.prog w=.ok 1 w)(h1:v.oneCell'=true)
  (k:∀ w',w'.heap.size=w.heap.size->St S w0 w' (L.set i (true,g,t,#[v]))->wpListIn F n Tryz.prog ops Q rest a w'):wpListIn F n Tryz.prog ops Q (⟨none,.store t x y,ty,pos,after,none⟩::rest) a w:=by
 have h2:=H.setRow i h (#[u].setIfInBounds 0 v)
 rw [<- setCell_eq_setRow w g 0 #[u] t (0,0) v (H.get i h)] at h2
 have hc:w.cell? ⟨g,0,none⟩=some u:=H.cell i 0 h rfl
 have hf:=H.fz i 0 h
 have hcs:v.cells=#[v]:=by cases v <;> first|rfl|cases h1
 have hst:(storeVar t ⟨g,0,none⟩ v).run Tryz.prog w=.ok () (w.setCell ⟨g,0,none⟩ v):=by
  have e:(storeCells ⟨g,0,none⟩ [v]).run Tryz.prog w=.ok () (w.setCell ⟨g,0,none⟩ v):=by simp [storeCells,go_sem,run_store Tryz.prog w _ v _ h1,stored,hc,hf]
  unfold storeVar
  simp only [Sem.run_bind,hi,Result.andThen_ok,hcs]
  simpa using e
 refine Za4 (w':=w.setCell ⟨g,0,none⟩ v) hF (fun c=>nofun) ?_ (k _ (by simp [World.setCell]) h2)
 unfold execOp
 simp only [hx,hy,Instr.storeAt,Instr.sureAddr,Sem.run_bind,Sem.run_pure,Result.andThen_ok,hst]
theorem Zcq (ev:Operand->Value)(w:World):(execOp ev ⟨dst,.alloc 3,ty,pos,after,none⟩).run Tryz.prog w=.ok (.value (.pointer (some ⟨w.heap.size,0,none⟩))) (w.alloc (.cells #[.int .i64 0] 3)):=by
 unfold execOp
 kernel_rfl
end
end G
namespace G
open Go.RowKit Go.Shelf
attribute [local go_sem] Oper.semAt_some
theorem ZiR:∀ {mss:List QM}{y:QM},y ∈ mss->y.2.length<=(flatM mss).length
 | [],y,h=>(List.not_mem_nil h).elim
 | x::r,y,h=>by
  simp only [flatM,List.flatMap_cons,List.length_append]
  rcases List.mem_cons.1 h with rfl|h
  ·omega
  ·have:=ZiR h
   simp only [flatM] at this
   omega
set_option maxRecDepth 100000 in
theorem ZhF (n:Nat)(hn:6<=n)(P:Nat->Prop)(v:Value)(f:Qf)(zs:List Value)(w:World)(ho:w.ownsRow 0 30 3 v f.len zs)(hp:∀ b,v.ownBlock=some b->P b)(hk:Kq w P f zs)(hlen:f.len<=100000)(htl:∀ q ∈ Zb0 3 f.ls,q.tell.length<=1000000000)(hol:(Zb0 3 f.ls).length<=100000) :
  CallsIn Fence.wide n Tryz.prog 131 #[.int .i64 3,v] w fun e w'=>∃ x,e=.returned x/\QyV w' (fun b=>P b\/w.heap.size<=b) x (tg 3 f.ls)/\Below w.heap.size w w':=by
 obtain⟨va,vc,rfl,_,hvm⟩:=Za8 ho
 have H:=St.start Nope w
 obtain⟨Pm,hPm⟩:∃ Pm:Nat->Prop,Pm=fun b=>P b/\b<w.heap.size:=⟨_,rfl⟩
 obtain⟨X',hX'⟩:∃ X':Nat->Prop,X'=fun b=>¬ Pm b:=⟨_,rfl⟩
 have nX':∀ b,¬ X' b↔Pm b:=fun b=>by rw [hX'];exact Classical.not_not
 have Pw:∀ b,Pm b->P b/\b<w.heap.size:=fun b h=>by rw [hPm] at h;exact h
 obtain⟨mss,hml0,hM,hfl,hQ⟩:=ZmX (X:=X') ho (fun b hb=>(nX' b).2 (by rw [hPm];exact⟨hp b hb,(Zaz ho hb).2⟩)) (hk.mono (fun b hl hb=>(nX' b).2 (by rw [hPm];exact⟨hb,hl⟩))) 3
 have hQ2:∀ x ∈ flatM mss,QyV w Pm (encP x) x.1:=fun x hx=>(hQ x hx).mono (fun b _ hb=>(nX' b).1 hb)
 have hfln:(flatM mss).length<=100000:=by rw [<- List.length_map (f:=fun x:QP=>x.1),hfl];exact hol
 have hftl:∀ x ∈ flatM mss,x.1.tell.length<=1000000000:=fun x hx=>htl x.1 (by rw [<- hfl];exact List.mem_map.2 ⟨x,hx,rfl⟩)
 have hmln:mss.length<=1000000:=by omega
 have hymn:∀ y ∈ mss,y.2.length<=1000000:=fun y hy=>by
  have:=ZiR hy
  omega
 rw [<- hml0]
 replace hQ2:=Zaa hQ2
 replace hfl:=Zaa hfl
 replace hM:=Zaa hM
 replace nX':=Zaa nX'
 replace Pw:=Zaa Pw
 replace hftl:=Zaa hftl
 replace hymn:=Zaa hymn
 clear ho hp hk htl hol hQ hPm hX' hml0
 refine callsIn_of_wp_marks Tryz.func131 rfl trivial ?_ rfl
 simp only [Tryz.ntmps131,List.size_toArray,List.length_cons,List.length_nil,Nat.reduceAdd,Nat.reduceSub,Array.replicate_succ,Array.replicate_zero,List.push_toArray,List.append_toArray,List.nil_append,List.cons_append]
 gi_wp2_with (first|((with_reducible refine ZaO 30 ?_);refine ZfD 30 (qA 0 [] (.slice none 0 0)) Zad H (fun _=>ZcA _ _ _ _ _ _) ?_;clear H;intro g4 w1 e4 s1 H;replace e4:=Zaa e4;replace s1:=Zaa s1))
 have H5:=((H.alloc 3 #[.int .i64 0]).alloc 3 #[.int .i64 1]).alloc 28 #[.slice none 0 0]
 obtain⟨w5,hw5⟩:∃ w5,w5=((w1.alloc (.cells #[.int .i64 0] 3)).alloc (.cells #[.int .i64 1] 3)).alloc (.cells #[.slice none 0 0] 28):=⟨_,rfl⟩
 rw [<- hw5] at H5 ⊢
 have s5:Hid (w5.heap.size=w.heap.size+4):=by show _=_;rw [hw5];simp;have:=s1.out;omega
 simp only [World.size_alloc] at H5
 obtain⟨g5,hg5⟩:∃ g5,g5=w1.heap.size:=⟨_,rfl⟩
 obtain⟨g6,hg6⟩:∃ g6,g6=w1.heap.size+1:=⟨_,rfl⟩
 obtain⟨g7,hg7⟩:∃ g7,g7=w1.heap.size+1+1:=⟨_,rfl⟩
 simp only [<- hg7] at H5 ⊢
 simp only [<- hg6] at H5 ⊢
 simp only [<- hg5] at H5 ⊢
 have hgg:Hid (g4=w.heap.size/\g5=w.heap.size+1/\g6=w.heap.size+2/\g7=w.heap.size+3):=by have h1:=s1.out;have h2:=e4.out;exact⟨h2,by omega,by omega,by omega⟩
 clear H hw5 s1 e4 hg5 hg6 hg7
 refine⟨trivial,fun h=>(by cases h),(ZhE _ _ _ _ _ w5).mono ?_⟩
 rintro e w6 ⟨rfl,e6⟩
 have B6:Below w5.heap.size w5 w6:=by rw [e6];exact ((Below.refl _ w5).alloc (Nat.le_refl _) _).alloc (by simp) _
 have s6:Hid (w6.heap.size=w.heap.size+6):=by show _=_;rw [e6];simp;have:=s5.out;omega
 have bo6:w6.heap[w5.heap.size]?=some (.cells #[.int .i64 3] 3 (0,0)):=by rw [e6];exact (Below.heap_alloc _ _ _ (by simp)).trans (heap_alloc_new w5 _)
 have bl6:w6.heap[w5.heap.size+1]?=some (.cells #[.slice va mss.length vc] 28 (0,0)):=by
  rw [e6]
  have:=heap_alloc_new (w5.alloc (.cells #[.int .i64 3] 3)) (.cells #[.slice va mss.length vc] 28)
  simpa using this
 have H6:=H5.call B6 (Nat.le_refl _)
 clear H5 e6
 replace B6:=Zaa B6
 replace bo6:=Zaa bo6
 replace bl6:=Zaa bl6
 gi_wp2
 refine⟨trivial,fun h=>(by cases h),(Zei _ _ _ w6 ⟨_,_,_,rfl⟩ ⟨_,_,_,rfl⟩).mono ?_⟩
 rintro e w7 ⟨rfl,e7⟩
 have B7:Below w6.heap.size w6 w7:=by rw [e7];exact ((Below.refl _ w6).alloc (Nat.le_refl _) _).alloc (by simp) _
 have s7:Hid (w7.heap.size=w.heap.size+8):=by show _=_;rw [e7];simp;have:=s6.out;omega
 have gs7:w7.heap[w6.heap.size]?=some (.cells #[.func (.func 218) #[] #[.pointer (some ⟨w5.heap.size+1,0,none⟩),.pointer (some ⟨w5.heap.size,0,none⟩)]] 243 (0,0)):=by rw [e7];exact (Below.heap_alloc _ _ _ (by simp)).trans (heap_alloc_new w6 _)
 have gk7:w7.heap[w6.heap.size+1]?=some (.cells #[.func (.func 49) #[] #[]] 49 (0,0)):=by
  rw [e7]
  have:=heap_alloc_new (w6.alloc (.cells #[.func (.func 218) #[] #[.pointer (some ⟨w5.heap.size+1,0,none⟩),.pointer (some ⟨w5.heap.size,0,none⟩)]] 243)) (.cells #[.func (.func 49) #[] #[]] 49)
  simpa using this
 have H7:=H6.call B7 (Nat.le_refl _)
 have bo7:=(B7.block w5.heap.size (by have:=s6.out;have:=s5.out;omega)).trans bo6.out
 have bl7:=(B7.block (w5.heap.size+1) (by have:=s6.out;have:=s5.out;omega)).trans bl6.out
 clear H6 e7 bo6 bl6
 replace B7:=Zaa B7
 have bel7:=H7.below
 obtain⟨X0,hX0⟩:∃ X0:Nat->Prop,X0=fun k=>k=g7\/w7.heap.size<=k:=⟨_,rfl⟩
 have nX0:∀ k,X0 k->k=g7\/w7.heap.size<=k:=fun k h=>by rw [hX0] at h;exact h
 have hXX:∀ k,X0 k->X' k:=fun k h=>Classical.byContradiction (fun hn=>by
  have h1:=(Pw.out k ((nX'.out k).1 hn)).2
  have h2:=hgg.out
  have h3:=s7.out
  rcases nX0 k h with h|h <;> omega)
 have hQ7:∀ x ∈ flatM mss,QyV w7 Pm (encP x) x.1:=fun x hx=>(hQ2.out x hx).kept (fun b _ hl=>bel7.block b hl)
 have hPX:∀ b,Pm b->¬ X0 b:=fun b hb h=>(nX'.out b).2 hb (hXX b h)
 have hst:=ZcV X0 (n - 1) (by omega) w6.heap.size (w6.heap.size+1) 218 #[.pointer (some ⟨w5.heap.size+1,0,none⟩),.pointer (some ⟨w5.heap.size,0,none⟩)] (flatM mss) hftl.out (by unfold maxLen;omega) w7 (fun x hx=>(hQ7 x hx).mono (fun b _ hb=>hPX b hb)) (enters_of Tryz.func218 (by kernel_rfl) rfl) gs7 gk7 (fun h=>by have h1:=nX0 _ h;have h2:=hgg.out;have h3:=s7.out;have h4:=s6.out;omega)
  (fun W hW=>ZdL _ (n - 1 - 1) (by omega) (w5.heap.size+1) w5.heap.size 3 va vc mss (fun h=>by have h1:=nX0 _ h.1;have h2:=hgg.out;have h3:=s7.out;have h4:=s5.out;omega) (fun h=>by have h1:=nX0 _ h.1;have h2:=hgg.out;have h3:=s7.out;have h4:=s5.out;omega) w7 (hM.out.kc ⟨bel7.size,fun k cs t fr _ e=>(bel7.block k (Array.getElem?_eq_some_iff.1 e).1).trans e⟩ (fun k h=>hXX k h.1)) hmln hymn.out bl7 bo7)
 have hB:TgB Pm w g4 g5 g6 g7 (w7.heap.size+5):=by
  have h2:=hgg.out
  have h3:=s7.out
  exact⟨by omega,by omega,by omega,by omega,fun k hk=>(Pw.out k hk).2⟩
 have I0:TgI Pm w g4 g5 g6 g7 (w7.heap.size+5) 0 1 [] w7:=⟨⟨none,0,[],H7.get 0 rfl,⟨rfl,.inl ⟨rfl,rfl⟩⟩,rfl⟩,H7.get 3 rfl,H7.get 2 rfl,H7.get 1 rfl,bel7⟩
 have hdl:(ZaL tk [] (flatM mss)).length<=100000:=Nat.le_trans (ZjC _ _ _) hfln
 replace hX0:=Zaa hX0
 replace nX0:=Zaa nX0
 clear B6 B7 H7 gs7 gk7 bo7 bl7 hXX hPX hQ7
 replace hst:=Zaa hst
 gi_wp2
 refine ZbG rfl (by omega) (gf:=217) (lb:=#[.pointer (some ⟨w6.heap.size,0,none⟩),.pointer (some ⟨w6.heap.size+1,0,none⟩)]) rfl (Zad 217) (enters_of Tryz.func217 (by kernel_rfl) rfl) hst.out
  (fun h k=>h.trans k) (fun Wd l o o' hl ho hc _=>⟨by simp [World.putObj],fun k cs t fr _ e=>(World.putObj_heap_other (fun h=>by rw [h,ho] at e;cases e;cases hc)).trans e⟩)
  (Below.refl _ w7) (fun _=>rfl)
  (fun pr Wd=>TgI Pm w g4 g5 g6 g7 (w7.heap.size+5) 0 1 (Zbi 0 pr) Wd/\∀ y ∈ pr,y.1.op≠1)
  (fun cc pr Wd=>cc=.ret/\∃ p x,p++[x] <+: ZaL tk [] (flatM mss)/\(∀ y ∈ p,y.1.op≠1)/\x.1.op=1/\Wd.heap[g4]?=some (.cells (qA x.1.op x.1.tx x.2) 30 (0,0))/\Below w.heap.size w Wd)
  (fun pr Wd Wd' row hs hg hr=>⟨hs.1.own (by have:=s7.out;omega) hB.old hg hr,hs.2⟩)
  (fun cc pr Wd Wd' row hs hg hr=>?ixown) ⟨I0,fun y hy=>(List.not_mem_nil hy).elim⟩
  (fun x a' Wd=>∃ (g8:Nat) (u0 u1 u2 u3 u9 u10 u11 u12 u13 u14 u15 u16 u17 u18 u19 u20 u21 u22 u23 u24 u25 u26 u27 u28 u29 u30 u31 u32 u33 u34 u35 u36 u37 u38 u39 u40 u41 u42 u43 u44 u45 u46:Value),a'={ tmps:=#[u0,u1,u2,u3,.pointer (some ⟨g4,0,none⟩),.pointer (some ⟨g5,0,none⟩),.pointer (some ⟨g6,0,none⟩),.pointer (some ⟨g7,0,none⟩),.pointer (some ⟨g8,0,none⟩),u9,u10,u11,u12,u13,u14,u15,u16,u17,u18,u19,u20,u21,u22,u23,u24,u25,u26,u27,u28,u29,u30,u31,u32,u33,u34,u35,u36,u37,u38,u39,u40,u41,u42,u43,u44,u45,u46],defers:=[] }/\Wd.heap[g8]?=some (.cells (qA x.1.op x.1.tx x.2) 30 (0,0)))
  (fun x a' _ Wd Wd' row hs hg' hr=>?ax) ?assign ?body ?done ?stop
 case ixown =>
  obtain⟨e1,p,x,e2,e3,e4,e5,e6⟩:=hs
  refine⟨e1,p,x,e2,e3,e4,(hg.block g4 (Array.getElem?_eq_some_iff.1 e5).1 (fun h=>?_)).trans e5,e6.grown hg e6.size (fun k e=>by have:=(hr k e).1;have:=s7.out;omega)⟩
  obtain⟨_,o,ho,hc⟩:=hr g4 h.symm
  rw [e5] at ho
  cases ho
  cases hc
 case ax =>
  obtain⟨g8,u0,u1,u2,u3,u9,u10,u11,u12,u13,u14,u15,u16,u17,u18,u19,u20,u21,u22,u23,u24,u25,u26,u27,u28,u29,u30,u31,u32,u33,u34,u35,u36,u37,u38,u39,u40,u41,u42,u43,u44,u45,u46,e1,e2⟩:=hs
  refine⟨g8,u0,u1,u2,u3,u9,u10,u11,u12,u13,u14,u15,u16,u17,u18,u19,u20,u21,u22,u23,u24,u25,u26,u27,u28,u29,u30,u31,u32,u33,u34,u35,u36,u37,u38,u39,u40,u41,u42,u43,u44,u45,u46,e1,(hg'.block g8 (Array.getElem?_eq_some_iff.1 e2).1 (fun h=>?_)).trans e2⟩
  obtain⟨_,o,ho,hc⟩:=hr g8 h.symm
  rw [e2] at ho
  cases ho
  cases hc
 case assign =>
  intro l2 pr x Wd K hi hK
  simp only [encQ,List.zip_toArray,List.zip_cons_cons,List.zip_nil_left,List.zip_nil_right,List.foldl_toArray,List.foldl_cons,List.foldl_nil,List.setIfInBounds_toArray,List.set_cons_zero,List.set_cons_succ]
  replace hK:=Zaa hK
  replace hi:=Zaa hi
  gi_wp2_with (first|((with_reducible refine ZbO ?_);refine ZbP (o:=x.1.op) (t:=x.1.tx) (l:=x.2) (Zan l2) x.h (fun _=>rfl) (fun _=>rfl) ?_;intro g8 w8 hb8 B8 hg8;replace hb8:=Zaa hb8;replace B8:=Zaa B8))
  exact hK.out _ w8 (Za2 B8.out) (Zek B8.out) ⟨hi.out.1.below hB.old B8.out,hi.out.2⟩ ⟨g8,_,_,_,_,_,_,_,_,_,_,_,_,_,_,_,_,_,_,_,_,_,_,_,_,_,_,_,_,_,_,_,_,_,_,_,_,_,_,_,_,_,_,rfl,hb8.out⟩
 case body =>
  rintro l2 pr x a' Wd hl ⟨r0,hr⟩ ⟨hI,hnr⟩ ⟨g8,u0,u1,u2,u3,u9,u10,u11,u12,u13,u14,u15,u16,u17,u18,u19,u20,u21,u22,u23,u24,u25,u26,u27,u28,u29,u30,u31,u32,u33,u34,u35,u36,u37,u38,u39,u40,u41,u42,u43,u44,u45,u46,rfl,hg8⟩ hY hsz
  have hprl:pr.length<100000:=by have:=hY.length_le;simp at this;omega
  have hxM:x ∈ flatM mss:=Zcc _ _ _ (hY.subset (by simp))
  have hll:=Zda 0 pr
  have hbel:=hI.bel
  have hxW:QyV Wd Pm (encP x) x.1:=(hQ2.out x hxM).kept (fun b _ hl=>hbel.block b hl)
  have c8:=Zal hg8 0 (v:=.int .i64 x.1.op) rfl
  have c5:=Zal hI.b5 0 (v:=.int .i64 0) rfl
  have c6:=Zal hI.b6 0 (v:=.int .i64 1) rfl
  have hsn:=ZeZ 0 pr x
  by_cases h1:x.1.op=1
  ·have b1:(x.1.op == 1)=true:=by simpa using h1
   have fin:Hid (∀ W',W'.heap[g4]?=some (.cells (qA x.1.op x.1.tx x.2) 30 (0,0))->But (fun k=>k=g4) Wd W'->KeepsFrom w7.heap.size Wd W'/\∃ p x,p++[x] <+: ZaL tk [] (flatM mss)/\(∀ y ∈ p,y.1.op≠1)/\x.1.op=1/\W'.heap[g4]?=some (.cells (qA x.1.op x.1.tx x.2) 30 (0,0))/\Below w.heap.size w W'):=fun W' e1 e2=>by
    refine⟨⟨e2.size,fun k o hk ho hc=>(e2.block k (Array.getElem?_eq_some_iff.1 ho).1 (fun e=>?_)).trans ho⟩,pr,x,hY,hnr,h1,e1,hbel.trans (e2.below hbel.size (fun k e=>by have:=hB.h4;omega))⟩
    have:=hB.h4
    have:=hgg.out
    have:=s7.out
    omega
   have h4:=Zaa hI.b4
   have h8:=Zaa hg8
   replace hr:=Zaa hr
   clear hI hnr hY hxW hsn hg8 h1
   gi_wp2_with (first|((with_reducible refine Zah 3 ?_);refine Zai 3 (Zan l2) rfl (ld3 c8) ?_)|((with_reducible refine Zah 3 ?_);refine Zai 3 (Zan l2) rfl (ld3 c6) ?_)|((with_reducible refine Zah 30 ?_);refine Zai 30 (Zan l2) rfl (ZaY h8.out) ?_)|((with_reducible refine Zbx ?_);refine Zbz (o':=x.1.op) (t':=x.1.tx) (l':=x.2) (Zan l2) h4.out rfl rfl x.h ?_;intro w9 h49 b9 s9;replace h49:=Zaa h49;replace b9:=Zaa b9))
   exact⟨(fin.out w9 h49.out b9.out).1,rfl,(fin.out w9 h49.out b9.out).2⟩
  ·have b1:(x.1.op == 1)=false:=by simpa using h1
   have hnr2:∀ y ∈ pr++[x],y.1.op≠1:=fun y hy=>by
    rcases List.mem_append.1 hy with hy|hy
    ·exact hnr y hy
    ·rw [List.mem_singleton.1 hy];exact h1
   by_cases h2:x.1.op=0
   ·have b2:(x.1.op == 0)=true:=by simpa using h2
    rw [if_pos h2] at hsn
    have fin:Hid (KeepsFrom w7.heap.size Wd Wd/\Kc (fun k=>X0 k/\k≠w7.heap.size+2/\k≠w7.heap.size+2+2) Wd Wd/\TgI Pm w g4 g5 g6 g7 (w7.heap.size+5) 0 1 (Zbi 0 (pr++[x])) Wd/\∀ y ∈ pr++[x],y.1.op≠1):=⟨⟨Nat.le_refl _,fun _ _ _ h _=>h⟩,Kc.refl _ _,by rw [hsn];exact hI,hnr2⟩
    replace hr:=Zaa hr
    replace hg8:=Zaa hg8
    clear hI hnr hY hxW hsn h1 h2 hnr2
    gi_wp2_with (first|((with_reducible refine Zah 3 ?_);refine Zai 3 (Zan l2) rfl (ld3 c8) ?_)|((with_reducible refine Zah 3 ?_);refine Zai 3 (Zan l2) rfl (ld3 c6) ?_)|((with_reducible refine Zah 3 ?_);refine Zai 3 (Zan l2) rfl (ld3 c5) ?_))
    exact fin.out
   ·have b2:(x.1.op == 0)=false:=by simpa using h2
    rw [if_neg h2] at hsn
    obtain⟨va',vc',hv7,hps⟩:=TgI.push hI hB (by omega) (by omega) x hxW
    have hps2:=Zaa hps
    have hsn2:=Zaa hsn
    have hnr3:=Zaa hnr2
    have h8:=Zaa hg8
    have hv7h:=Zaa hv7
    have h7b:=Zaa (And.intro hB.h7 hX0.out)
    obtain⟨m,hm⟩:∃ m,m=(Zbi 0 pr).length:=⟨_,rfl⟩
    have hm6:m<=1000000:=by omega
    replace hm:=Zaa hm
    replace hr:=Zaa hr
    clear hI hnr hY hxW hsn hg8 h1 h2 hnr2 hps hv7
    gi_wp2_with (first|((with_reducible refine Zah 3 ?_);refine Zai 3 (Zan l2) rfl (ld3 c8) ?_)|((with_reducible refine Zah 3 ?_);refine Zai 3 (Zan l2) rfl (ld3 c6) ?_)|((with_reducible refine Zah 3 ?_);refine Zai 3 (Zan l2) rfl (ld3 c5) ?_))
    refine ZjU l2 _ Wd g7 g8 va' m vc' x.1.op x.1.tx x.2 hm6 (by rw [hm.out];exact hv7h.out) h8.out (fun W'=>TgI Pm w g4 g5 g6 g7 (w7.heap.size+5) 0 1 (Zbi 0 pr++[x.1]) W'/\But (fun k=>k=g7\/w7.heap.size+5<=k/\∃ cur,Wd.heap[k]?=some (Obj.cells cur 30 (0,0))) Wd W') (by rw [hm.out];exact hps2.out) _ _ _ _ _ _ _ _ _ _ _ _ _ _ _ _ _ _ _ _ _ _ _ _ _ _ _ _ _ _ _ _ _ _ _ _ _ _ _ _ _ _ _ _ _ _ (fun X24 X25 W' hF=>?_)
    obtain⟨hg,hb⟩:=hF
    refine⟨⟨hb.size,fun k o hk ho hcs=>(hb.block k (Array.getElem?_eq_some_iff.1 ho).1 (fun h=>by
     rcases h with h|⟨_,cur,h⟩
     ·have:=hgg.out;have:=s7.out;omega
     ·rw [ho] at h;cases h;cases hcs)).trans ho⟩,⟨hb.size,fun k cs t fr hX e=>(hb.block k (Array.getElem?_eq_some_iff.1 e).1 (fun h=>hX (by
     rw [hX0.out]
     have:=hgg.out
     have:=s7.out
     rcases h with h|⟨h,_⟩
     ·exact⟨.inl h,by omega,by omega⟩
     ·exact⟨.inr (by omega),by omega,by omega⟩))).trans e⟩,by rw [hsn2.out];exact hg,hnr3.out⟩
 case done =>
  rintro D xs Wd hD hS ⟨hI,hnr⟩ hK
  rw [hS] at hI hnr
  have htg:=Zm3 hfl.out (fun x hx=>hnr x hx)
  rw [show Zej 3=0 from rfl] at htg
  have hDl:=(Array.getElem?_eq_some_iff.1 hK).1
  have hbel:=hI.bel
  have h4:=Zaa hI.b4
  have c5:=Zal hI.b5 0 (v:=.int .i64 0) rfl
  have hkp:Hid (∀ w8,But (fun k=>k=g4) Wd w8->w8.heap[D]?=some (.deferred (some []))/\Below w.heap.size w w8/\∀ x q,QyV Wd Pm x q->QyV w8 (fun b=>P b\/w.heap.size<=b) x q):=fun w8 b8=>by
   have hB4:=hB.h4
   have bb:Below w.heap.size Wd w8:=b8.below hbel.size (fun k e=>by omega)
   refine⟨(b8.block D hDl (fun e=>by have:=hB.h4;have:=hgg.out;have:=s7.out;omega)).trans hK,hbel.trans bb,fun x q hq=>?_⟩
   exact (hq.kept (w':=w8) (fun b hb _=>bb.block b (hB.old b hb))).mono (fun b _ hb=>.inl (Pw.out b hb).1)
  obtain⟨va',vc',xs',h7,ho,hk⟩:=hI.row
  have c7:=Zal h7 0 rfl
  have ho0:=ZbH ho (Nat.zero_le _)
  rw [<- ZcG (Zbi 0 (ZaL tk [] (flatM mss)))] at ho0
  have hrow:=fun (k:Nat) (q:Qy) (hq:(Zbi 0 (ZaL tk [] (flatM mss)))[k]?=some q)=>Zgq ho0 hk k q (by rw [Zgb];exact hq)
  have hlen2:=Zda 0 (ZaL tk [] (flatM mss))
  have hbig:Hid (2<=(Zbi 0 (ZaL tk [] (flatM mss))).length->∀ w8,But (fun k=>k=g4) Wd w8->QyV w8 (fun b=>P b\/w.heap.size<=b) (qV 3 [] (.slice va' (Zbi 0 (ZaL tk [] (flatM mss))).length vc')) ⟨3,[],fq (Zbi 0 (ZaL tk [] (flatM mss)))⟩):=fun h2 w8 b8=>by
   refine⟨_,xs',rfl,?_,fun b hb=>.inr ?_,?_⟩
   ·show World.ownsRow _ _ _ _ _ (fq _).len _
    rw [ZcG]
    exact ZaC (ZbH ho (Nat.zero_le _)) (fun k hk2=>b8.block k (Zaz ho hk2).2 (fun e=>by have:=(Zaz ho hk2).1;have:=hB.h4;omega))
   ·have:=(Zaz ho hb).1
    have:=s7.out
    omega
   ·have hB4:=hB.h4
    exact (hk.kept (w':=w8) (fun b hb _=>(b8.below (B:=w.heap.size) hbel.size (fun k e=>by omega)).block b (hB.old b hb))).mono (fun b _ hb=>.inl (Pw.out b hb).1)
  generalize Zbi 0 (ZaL tk [] (flatM mss))=left at *
  replace hK:=Zaa hK
  replace htg:=Zaa htg
  replace hrow:=Zaa hrow
  clear hI hnr ho ho0 hk h7 hst hM hQ2 hfl hftl
  cases left with
  | nil =>
   simp only [List.length_nil] at c7
   clear hbig hrow
   gi_wp2_with (first|((with_reducible refine Zah 28 ?_);refine Zai 28 Zad rfl (ZiP c7) ?_)|((with_reducible refine Zah 3 ?_);refine Zai 3 Zad rfl (ld3 c5) ?_)|((with_reducible refine ZcC ?_);refine ZaF Zad (fun c=>nofun) (Zb2 _ 0 rfl _) ?_)|((with_reducible refine Zbx ?_);refine Zbz (o':=0) (t':=[]) (l':=.slice none 0 0) Zad h4.out rfl rfl rfl ?_;intro w8 h48 b8 s8;replace h48:=Zaa h48;have hK8:=Zaa (hkp.out w8 b8).1;have fb8:=Zaa (hkp.out w8 b8).2.1;replace b8:=Zaa b8))
   refine⟨by simp,.inl ⟨_,_,rfl,run_takeDeferred hK8.out,?_⟩⟩
   have B9:=grownBy_putObj' w8 D (.deferred none)
   have h9:=(B9.block g4 (Array.getElem?_eq_some_iff.1 h48.out).1 (fun h=>by cases h;have:=h48.out;rw [hK8.out] at this;cases this)).trans h48.out
   refine⟨_,Zaf rfl _ _ _ _ rfl (ZaY h9),_,rfl,?_,fb8.out.grown B9 fb8.out.size (fun k e=>by cases e;have:=s7.out;omega)⟩
   rw [htg.out]
   exact⟨_,[],rfl,⟨rfl,.inl ⟨rfl,rfl⟩⟩,fun b hb=>(by cases hb),rfl⟩
  | cons q0 rest =>
   cases rest with
   | nil =>
    simp only [List.length_cons,List.length_nil,Nat.zero_add] at c7
    obtain⟨g,cv,hva,hcv,hch⟩:=hrow.out 0 q0 rfl
    subst hva
    have hc0:=Zaa (hch Wd (Kr.refl _))
    clear hbig hrow hch
    gi_wp2_with (first|((with_reducible refine Zah 28 ?_);refine Zai 28 Zad rfl (ZiP c7) ?_)|((with_reducible refine Zah 30 ?_);refine Zai 30 Zad rfl (by simpa using hc0.out.2) ?_)|((with_reducible refine Zbx ?_);refine Zbz (o':=q0.op) (t':=q0.tx) (l':=cv) Zad h4.out rfl rfl hcv ?_;intro w8 h48 b8 s8;replace h48:=Zaa h48;have hK8:=Zaa (hkp.out w8 b8).1;have fb8:=Zaa (hkp.out w8 b8).2.1;have hq8:=Zaa ((hkp.out w8 b8).2.2 _ _ hc0.out.1);replace b8:=Zaa b8))
    refine⟨by simp,.inl ⟨_,_,rfl,run_takeDeferred hK8.out,?_⟩⟩
    have B9:=grownBy_putObj' w8 D (.deferred none)
    have h9:=(B9.block g4 (Array.getElem?_eq_some_iff.1 h48.out).1 (fun h=>by cases h;have:=h48.out;rw [hK8.out] at this;cases this)).trans h48.out
    refine⟨_,Zaf rfl _ _ _ _ rfl (ZaY h9),_,rfl,?_,fb8.out.grown B9 fb8.out.size (fun k e=>by cases e;have:=s7.out;omega)⟩
    rw [htg.out]
    show QyV _ _ _ q0
    exact QyV.kr hq8.out (fun k cs fr e=>(B9.block k (Array.getElem?_eq_some_iff.1 e).1 (fun h=>by cases h;rw [hK8.out] at e;cases e)).trans e)
   | cons q1 rest =>
    have h2m:2<=(q0::q1::rest).length:=by simp
    have hb8:=Zaa (hbig.out h2m)
    have htg2:Hid (tg 3 f.ls=⟨3,[],fq (q0::q1::rest)⟩):=htg.out
    generalize q0::q1::rest=left at *
    obtain⟨m,hm⟩:∃ m,left.length=m:=⟨_,rfl⟩
    rw [hm] at c7 h2m hlen2 hb8
    have m0:((m:Int) == 0)=false:=by simpa using (by omega:¬ (m:Int)=0)
    have m1:((m:Int) == 1)=false:=by simpa using (by omega:¬ (m:Int)=1)
    replace hm:=Zaa hm
    clear hbig hrow htg
    gi_wp2_with (first|((with_reducible refine Zah 28 ?_);refine Zai 28 Zad rfl (ZiP c7) ?_)|((with_reducible refine ZcC ?_);refine ZaF Zad (fun c=>nofun) (ZdM _ 3 va' m vc' rfl rfl _) ?_)|((with_reducible refine Zbx ?_);refine Zbz (o':=3) (t':=[]) (l':=.slice va' m vc') Zad h4.out rfl rfl rfl ?_;intro w8 h48 b8 s8;replace h48:=Zaa h48;have hK8:=Zaa (hkp.out w8 b8).1;have fb8:=Zaa (hkp.out w8 b8).2.1;have hq8:=Zaa (hb8.out w8 b8);replace b8:=Zaa b8))
    refine⟨by simp,.inl ⟨_,_,rfl,run_takeDeferred hK8.out,?_⟩⟩
    have B9:=grownBy_putObj' w8 D (.deferred none)
    have h9:=(B9.block g4 (Array.getElem?_eq_some_iff.1 h48.out).1 (fun h=>by cases h;have:=h48.out;rw [hK8.out] at this;cases this)).trans h48.out
    refine⟨_,Zaf rfl _ _ _ _ rfl (ZaY h9),_,rfl,?_,fb8.out.grown B9 fb8.out.size (fun k e=>by cases e;have:=s7.out;omega)⟩
    rw [htg2.out]
    exact QyV.kr hq8.out (fun k cs fr e=>(B9.block k (Array.getElem?_eq_some_iff.1 e).1 (fun h=>by cases h;rw [hK8.out] at e;cases e)).trans e)
 case stop =>
  rintro D cc pr Wd hD hS ⟨rfl,p,x,h1,h2,h3,h48,fb8⟩ hK8
  have htg:=Zm4 hfl.out h1 (show ∀ y ∈ p,y.1.op≠ZdF 3 from h2) h3
  have hxM:x ∈ flatM mss:=Zcc _ _ _ (h1.subset (by simp))
  have hq8:=(hQ2.out x hxM).kept (w':=Wd) (fun b _ hl=>fb8.block b hl)
  replace htg:=Zaa htg
  replace hq8:=Zaa hq8
  replace h48:=Zaa h48
  replace hK8:=Zaa hK8
  replace fb8:=Zaa fb8
  clear h1 h2 h3 hxM hst
  gi_wp2
  refine⟨by simp,.inl ⟨_,_,rfl,run_takeDeferred hK8.out,?_⟩⟩
  have B9:=grownBy_putObj' Wd D (.deferred none)
  have h9:=(B9.block g4 (Array.getElem?_eq_some_iff.1 h48.out).1 (fun h=>by cases h;have:=h48.out;rw [hK8.out] at this;cases this)).trans h48.out
  refine⟨_,Zaf rfl _ _ _ _ rfl (ZaY h9),_,rfl,?_,fb8.out.grown B9 fb8.out.size (fun k e=>by cases e;have:=s7.out;omega)⟩
  rw [htg.out]
  exact (QyV.kr hq8.out (fun k cs fr e=>(B9.block k (Array.getElem?_eq_some_iff.1 e).1 (fun h=>by cases h;rw [hK8.out] at e;cases e)).trans e)).mono (fun b _ hb=>.inl (Pw.out b hb).1)
set_option maxRecDepth 100000 in
theorem ZhG (n:Nat)(hn:6<=n)(P:Nat->Prop)(v:Value)(f:Qf)(zs:List Value)(w:World)(ho:w.ownsRow 0 30 3 v f.len zs)(hp:∀ b,v.ownBlock=some b->P b)(hk:Kq w P f zs)(hlen:f.len<=100000)(htl:∀ q ∈ Zb0 4 f.ls,q.tell.length<=1000000000)(hol:(Zb0 4 f.ls).length<=100000) :
  CallsIn Fence.wide n Tryz.prog 131 #[.int .i64 4,v] w fun e w'=>∃ x,e=.returned x/\QyV w' (fun b=>P b\/w.heap.size<=b) x (tg 4 f.ls)/\Below w.heap.size w w':=by
 obtain⟨va,vc,rfl,_,hvm⟩:=Za8 ho
 have H:=St.start Nope w
 obtain⟨Pm,hPm⟩:∃ Pm:Nat->Prop,Pm=fun b=>P b/\b<w.heap.size:=⟨_,rfl⟩
 obtain⟨X',hX'⟩:∃ X':Nat->Prop,X'=fun b=>¬ Pm b:=⟨_,rfl⟩
 have nX':∀ b,¬ X' b↔Pm b:=fun b=>by rw [hX'];exact Classical.not_not
 have Pw:∀ b,Pm b->P b/\b<w.heap.size:=fun b h=>by rw [hPm] at h;exact h
 obtain⟨mss,hml0,hM,hfl,hQ⟩:=ZmX (X:=X') ho (fun b hb=>(nX' b).2 (by rw [hPm];exact⟨hp b hb,(Zaz ho hb).2⟩)) (hk.mono (fun b hl hb=>(nX' b).2 (by rw [hPm];exact⟨hb,hl⟩))) 4
 have hQ2:∀ x ∈ flatM mss,QyV w Pm (encP x) x.1:=fun x hx=>(hQ x hx).mono (fun b _ hb=>(nX' b).1 hb)
 have hfln:(flatM mss).length<=100000:=by rw [<- List.length_map (f:=fun x:QP=>x.1),hfl];exact hol
 have hftl:∀ x ∈ flatM mss,x.1.tell.length<=1000000000:=fun x hx=>htl x.1 (by rw [<- hfl];exact List.mem_map.2 ⟨x,hx,rfl⟩)
 have hmln:mss.length<=1000000:=by omega
 have hymn:∀ y ∈ mss,y.2.length<=1000000:=fun y hy=>by
  have:=ZiR hy
  omega
 rw [<- hml0]
 replace hQ2:=Zaa hQ2
 replace hfl:=Zaa hfl
 replace hM:=Zaa hM
 replace nX':=Zaa nX'
 replace Pw:=Zaa Pw
 replace hftl:=Zaa hftl
 replace hymn:=Zaa hymn
 clear ho hp hk htl hol hQ hPm hX' hml0
 refine callsIn_of_wp_marks Tryz.func131 rfl trivial ?_ rfl
 simp only [Tryz.ntmps131,List.size_toArray,List.length_cons,List.length_nil,Nat.reduceAdd,Nat.reduceSub,Array.replicate_succ,Array.replicate_zero,List.push_toArray,List.append_toArray,List.nil_append,List.cons_append]
 gi_wp2_with (first|((with_reducible refine ZaO 30 ?_);refine ZfD 30 (qA 0 [] (.slice none 0 0)) Zad H (fun _=>ZcA _ _ _ _ _ _) ?_;clear H;intro g4 w1 e4 s1 H;replace e4:=Zaa e4;replace s1:=Zaa s1))
 have H5:=((H.alloc 3 #[.int .i64 1]).alloc 3 #[.int .i64 0]).alloc 28 #[.slice none 0 0]
 obtain⟨w5,hw5⟩:∃ w5,w5=((w1.alloc (.cells #[.int .i64 1] 3)).alloc (.cells #[.int .i64 0] 3)).alloc (.cells #[.slice none 0 0] 28):=⟨_,rfl⟩
 rw [<- hw5] at H5 ⊢
 have s5:Hid (w5.heap.size=w.heap.size+4):=by show _=_;rw [hw5];simp;have:=s1.out;omega
 simp only [World.size_alloc] at H5
 obtain⟨g5,hg5⟩:∃ g5,g5=w1.heap.size:=⟨_,rfl⟩
 obtain⟨g6,hg6⟩:∃ g6,g6=w1.heap.size+1:=⟨_,rfl⟩
 obtain⟨g7,hg7⟩:∃ g7,g7=w1.heap.size+1+1:=⟨_,rfl⟩
 simp only [<- hg7] at H5 ⊢
 simp only [<- hg6] at H5 ⊢
 simp only [<- hg5] at H5 ⊢
 have hgg:Hid (g4=w.heap.size/\g5=w.heap.size+1/\g6=w.heap.size+2/\g7=w.heap.size+3):=by have h1:=s1.out;have h2:=e4.out;exact⟨h2,by omega,by omega,by omega⟩
 clear H hw5 s1 e4 hg5 hg6 hg7
 refine⟨trivial,fun h=>(by cases h),(ZhE _ _ _ _ _ w5).mono ?_⟩
 rintro e w6 ⟨rfl,e6⟩
 have B6:Below w5.heap.size w5 w6:=by rw [e6];exact ((Below.refl _ w5).alloc (Nat.le_refl _) _).alloc (by simp) _
 have s6:Hid (w6.heap.size=w.heap.size+6):=by show _=_;rw [e6];simp;have:=s5.out;omega
 have bo6:w6.heap[w5.heap.size]?=some (.cells #[.int .i64 4] 3 (0,0)):=by rw [e6];exact (Below.heap_alloc _ _ _ (by simp)).trans (heap_alloc_new w5 _)
 have bl6:w6.heap[w5.heap.size+1]?=some (.cells #[.slice va mss.length vc] 28 (0,0)):=by
  rw [e6]
  have:=heap_alloc_new (w5.alloc (.cells #[.int .i64 4] 3)) (.cells #[.slice va mss.length vc] 28)
  simpa using this
 have H6:=H5.call B6 (Nat.le_refl _)
 clear H5 e6
 replace B6:=Zaa B6
 replace bo6:=Zaa bo6
 replace bl6:=Zaa bl6
 gi_wp2
 refine⟨trivial,fun h=>(by cases h),(Zei _ _ _ w6 ⟨_,_,_,rfl⟩ ⟨_,_,_,rfl⟩).mono ?_⟩
 rintro e w7 ⟨rfl,e7⟩
 have B7:Below w6.heap.size w6 w7:=by rw [e7];exact ((Below.refl _ w6).alloc (Nat.le_refl _) _).alloc (by simp) _
 have s7:Hid (w7.heap.size=w.heap.size+8):=by show _=_;rw [e7];simp;have:=s6.out;omega
 have gs7:w7.heap[w6.heap.size]?=some (.cells #[.func (.func 218) #[] #[.pointer (some ⟨w5.heap.size+1,0,none⟩),.pointer (some ⟨w5.heap.size,0,none⟩)]] 243 (0,0)):=by rw [e7];exact (Below.heap_alloc _ _ _ (by simp)).trans (heap_alloc_new w6 _)
 have gk7:w7.heap[w6.heap.size+1]?=some (.cells #[.func (.func 49) #[] #[]] 49 (0,0)):=by
  rw [e7]
  have:=heap_alloc_new (w6.alloc (.cells #[.func (.func 218) #[] #[.pointer (some ⟨w5.heap.size+1,0,none⟩),.pointer (some ⟨w5.heap.size,0,none⟩)]] 243)) (.cells #[.func (.func 49) #[] #[]] 49)
  simpa using this
 have H7:=H6.call B7 (Nat.le_refl _)
 have bo7:=(B7.block w5.heap.size (by have:=s6.out;have:=s5.out;omega)).trans bo6.out
 have bl7:=(B7.block (w5.heap.size+1) (by have:=s6.out;have:=s5.out;omega)).trans bl6.out
 clear H6 e7 bo6 bl6
 replace B7:=Zaa B7
 have bel7:=H7.below
 obtain⟨X0,hX0⟩:∃ X0:Nat->Prop,X0=fun k=>k=g7\/w7.heap.size<=k:=⟨_,rfl⟩
 have nX0:∀ k,X0 k->k=g7\/w7.heap.size<=k:=fun k h=>by rw [hX0] at h;exact h
 have hXX:∀ k,X0 k->X' k:=fun k h=>Classical.byContradiction (fun hn=>by
  have h1:=(Pw.out k ((nX'.out k).1 hn)).2
  have h2:=hgg.out
  have h3:=s7.out
  rcases nX0 k h with h|h <;> omega)
 have hQ7:∀ x ∈ flatM mss,QyV w7 Pm (encP x) x.1:=fun x hx=>(hQ2.out x hx).kept (fun b _ hl=>bel7.block b hl)
 have hPX:∀ b,Pm b->¬ X0 b:=fun b hb h=>(nX'.out b).2 hb (hXX b h)
 have hst:=ZcV X0 (n - 1) (by omega) w6.heap.size (w6.heap.size+1) 218 #[.pointer (some ⟨w5.heap.size+1,0,none⟩),.pointer (some ⟨w5.heap.size,0,none⟩)] (flatM mss) hftl.out (by unfold maxLen;omega) w7 (fun x hx=>(hQ7 x hx).mono (fun b _ hb=>hPX b hb)) (enters_of Tryz.func218 (by kernel_rfl) rfl) gs7 gk7 (fun h=>by have h1:=nX0 _ h;have h2:=hgg.out;have h3:=s7.out;have h4:=s6.out;omega)
  (fun W hW=>ZdL _ (n - 1 - 1) (by omega) (w5.heap.size+1) w5.heap.size 4 va vc mss (fun h=>by have h1:=nX0 _ h.1;have h2:=hgg.out;have h3:=s7.out;have h4:=s5.out;omega) (fun h=>by have h1:=nX0 _ h.1;have h2:=hgg.out;have h3:=s7.out;have h4:=s5.out;omega) w7 (hM.out.kc ⟨bel7.size,fun k cs t fr _ e=>(bel7.block k (Array.getElem?_eq_some_iff.1 e).1).trans e⟩ (fun k h=>hXX k h.1)) hmln hymn.out bl7 bo7)
 have hB:TgB Pm w g4 g5 g6 g7 (w7.heap.size+5):=by
  have h2:=hgg.out
  have h3:=s7.out
  exact⟨by omega,by omega,by omega,by omega,fun k hk=>(Pw.out k hk).2⟩
 have I0:TgI Pm w g4 g5 g6 g7 (w7.heap.size+5) 1 0 [] w7:=⟨⟨none,0,[],H7.get 0 rfl,⟨rfl,.inl ⟨rfl,rfl⟩⟩,rfl⟩,H7.get 3 rfl,H7.get 2 rfl,H7.get 1 rfl,bel7⟩
 have hdl:(ZaL tk [] (flatM mss)).length<=100000:=Nat.le_trans (ZjC _ _ _) hfln
 replace hX0:=Zaa hX0
 replace nX0:=Zaa nX0
 clear B6 B7 H7 gs7 gk7 bo7 bl7 hXX hPX hQ7
 replace hst:=Zaa hst
 gi_wp2
 refine ZbG rfl (by omega) (gf:=217) (lb:=#[.pointer (some ⟨w6.heap.size,0,none⟩),.pointer (some ⟨w6.heap.size+1,0,none⟩)]) rfl (Zad 217) (enters_of Tryz.func217 (by kernel_rfl) rfl) hst.out
  (fun h k=>h.trans k) (fun Wd l o o' hl ho hc _=>⟨by simp [World.putObj],fun k cs t fr _ e=>(World.putObj_heap_other (fun h=>by rw [h,ho] at e;cases e;cases hc)).trans e⟩)
  (Below.refl _ w7) (fun _=>rfl)
  (fun pr Wd=>TgI Pm w g4 g5 g6 g7 (w7.heap.size+5) 1 0 (Zbi 1 pr) Wd/\∀ y ∈ pr,y.1.op≠0)
  (fun cc pr Wd=>cc=.ret/\∃ p x,p++[x] <+: ZaL tk [] (flatM mss)/\(∀ y ∈ p,y.1.op≠0)/\x.1.op=0/\Wd.heap[g4]?=some (.cells (qA x.1.op x.1.tx x.2) 30 (0,0))/\Below w.heap.size w Wd)
  (fun pr Wd Wd' row hs hg hr=>⟨hs.1.own (by have:=s7.out;omega) hB.old hg hr,hs.2⟩)
  (fun cc pr Wd Wd' row hs hg hr=>?ixown) ⟨I0,fun y hy=>(List.not_mem_nil hy).elim⟩
  (fun x a' Wd=>∃ (g8:Nat) (u0 u1 u2 u3 u9 u10 u11 u12 u13 u14 u15 u16 u17 u18 u19 u20 u21 u22 u23 u24 u25 u26 u27 u28 u29 u30 u31 u32 u33 u34 u35 u36 u37 u38 u39 u40 u41 u42 u43 u44 u45 u46:Value),a'={ tmps:=#[u0,u1,u2,u3,.pointer (some ⟨g4,0,none⟩),.pointer (some ⟨g5,0,none⟩),.pointer (some ⟨g6,0,none⟩),.pointer (some ⟨g7,0,none⟩),.pointer (some ⟨g8,0,none⟩),u9,u10,u11,u12,u13,u14,u15,u16,u17,u18,u19,u20,u21,u22,u23,u24,u25,u26,u27,u28,u29,u30,u31,u32,u33,u34,u35,u36,u37,u38,u39,u40,u41,u42,u43,u44,u45,u46],defers:=[] }/\Wd.heap[g8]?=some (.cells (qA x.1.op x.1.tx x.2) 30 (0,0)))
  (fun x a' _ Wd Wd' row hs hg' hr=>?ax) ?assign ?body ?done ?stop
 case ixown =>
  obtain⟨e1,p,x,e2,e3,e4,e5,e6⟩:=hs
  refine⟨e1,p,x,e2,e3,e4,(hg.block g4 (Array.getElem?_eq_some_iff.1 e5).1 (fun h=>?_)).trans e5,e6.grown hg e6.size (fun k e=>by have:=(hr k e).1;have:=s7.out;omega)⟩
  obtain⟨_,o,ho,hc⟩:=hr g4 h.symm
  rw [e5] at ho
  cases ho
  cases hc
 case ax =>
  obtain⟨g8,u0,u1,u2,u3,u9,u10,u11,u12,u13,u14,u15,u16,u17,u18,u19,u20,u21,u22,u23,u24,u25,u26,u27,u28,u29,u30,u31,u32,u33,u34,u35,u36,u37,u38,u39,u40,u41,u42,u43,u44,u45,u46,e1,e2⟩:=hs
  refine⟨g8,u0,u1,u2,u3,u9,u10,u11,u12,u13,u14,u15,u16,u17,u18,u19,u20,u21,u22,u23,u24,u25,u26,u27,u28,u29,u30,u31,u32,u33,u34,u35,u36,u37,u38,u39,u40,u41,u42,u43,u44,u45,u46,e1,(hg'.block g8 (Array.getElem?_eq_some_iff.1 e2).1 (fun h=>?_)).trans e2⟩
  obtain⟨_,o,ho,hc⟩:=hr g8 h.symm
  rw [e2] at ho
  cases ho
  cases hc
 case assign =>
  intro l2 pr x Wd K hi hK
  simp only [encQ,List.zip_toArray,List.zip_cons_cons,List.zip_nil_left,List.zip_nil_right,List.foldl_toArray,List.foldl_cons,List.foldl_nil,List.setIfInBounds_toArray,List.set_cons_zero,List.set_cons_succ]
  replace hK:=Zaa hK
  replace hi:=Zaa hi
  gi_wp2_with (first|((with_reducible refine ZbO ?_);refine ZbP (o:=x.1.op) (t:=x.1.tx) (l:=x.2) (Zan l2) x.h (fun _=>rfl) (fun _=>rfl) ?_;intro g8 w8 hb8 B8 hg8;replace hb8:=Zaa hb8;replace B8:=Zaa B8))
  exact hK.out _ w8 (Za2 B8.out) (Zek B8.out) ⟨hi.out.1.below hB.old B8.out,hi.out.2⟩ ⟨g8,_,_,_,_,_,_,_,_,_,_,_,_,_,_,_,_,_,_,_,_,_,_,_,_,_,_,_,_,_,_,_,_,_,_,_,_,_,_,_,_,_,_,rfl,hb8.out⟩
 case body =>
  rintro l2 pr x a' Wd hl ⟨r0,hr⟩ ⟨hI,hnr⟩ ⟨g8,u0,u1,u2,u3,u9,u10,u11,u12,u13,u14,u15,u16,u17,u18,u19,u20,u21,u22,u23,u24,u25,u26,u27,u28,u29,u30,u31,u32,u33,u34,u35,u36,u37,u38,u39,u40,u41,u42,u43,u44,u45,u46,rfl,hg8⟩ hY hsz
  have hprl:pr.length<100000:=by have:=hY.length_le;simp at this;omega
  have hxM:x ∈ flatM mss:=Zcc _ _ _ (hY.subset (by simp))
  have hll:=Zda 1 pr
  have hbel:=hI.bel
  have hxW:QyV Wd Pm (encP x) x.1:=(hQ2.out x hxM).kept (fun b _ hl=>hbel.block b hl)
  have c8:=Zal hg8 0 (v:=.int .i64 x.1.op) rfl
  have c5:=Zal hI.b5 0 (v:=.int .i64 1) rfl
  have c6:=Zal hI.b6 0 (v:=.int .i64 0) rfl
  have hsn:=ZeZ 1 pr x
  by_cases h1:x.1.op=0
  ·have b1:(x.1.op == 0)=true:=by simpa using h1
   have fin:Hid (∀ W',W'.heap[g4]?=some (.cells (qA x.1.op x.1.tx x.2) 30 (0,0))->But (fun k=>k=g4) Wd W'->KeepsFrom w7.heap.size Wd W'/\∃ p x,p++[x] <+: ZaL tk [] (flatM mss)/\(∀ y ∈ p,y.1.op≠0)/\x.1.op=0/\W'.heap[g4]?=some (.cells (qA x.1.op x.1.tx x.2) 30 (0,0))/\Below w.heap.size w W'):=fun W' e1 e2=>by
    refine⟨⟨e2.size,fun k o hk ho hc=>(e2.block k (Array.getElem?_eq_some_iff.1 ho).1 (fun e=>?_)).trans ho⟩,pr,x,hY,hnr,h1,e1,hbel.trans (e2.below hbel.size (fun k e=>by have:=hB.h4;omega))⟩
    have:=hB.h4
    have:=hgg.out
    have:=s7.out
    omega
   have h4:=Zaa hI.b4
   have h8:=Zaa hg8
   replace hr:=Zaa hr
   clear hI hnr hY hxW hsn hg8 h1
   gi_wp2_with (first|((with_reducible refine Zah 3 ?_);refine Zai 3 (Zan l2) rfl (ld3 c8) ?_)|((with_reducible refine Zah 3 ?_);refine Zai 3 (Zan l2) rfl (ld3 c6) ?_)|((with_reducible refine Zah 30 ?_);refine Zai 30 (Zan l2) rfl (ZaY h8.out) ?_)|((with_reducible refine Zbx ?_);refine Zbz (o':=x.1.op) (t':=x.1.tx) (l':=x.2) (Zan l2) h4.out rfl rfl x.h ?_;intro w9 h49 b9 s9;replace h49:=Zaa h49;replace b9:=Zaa b9))
   exact⟨(fin.out w9 h49.out b9.out).1,rfl,(fin.out w9 h49.out b9.out).2⟩
  ·have b1:(x.1.op == 0)=false:=by simpa using h1
   have hnr2:∀ y ∈ pr++[x],y.1.op≠0:=fun y hy=>by
    rcases List.mem_append.1 hy with hy|hy
    ·exact hnr y hy
    ·rw [List.mem_singleton.1 hy];exact h1
   by_cases h2:x.1.op=1
   ·have b2:(x.1.op == 1)=true:=by simpa using h2
    rw [if_pos h2] at hsn
    have fin:Hid (KeepsFrom w7.heap.size Wd Wd/\Kc (fun k=>X0 k/\k≠w7.heap.size+2/\k≠w7.heap.size+2+2) Wd Wd/\TgI Pm w g4 g5 g6 g7 (w7.heap.size+5) 1 0 (Zbi 1 (pr++[x])) Wd/\∀ y ∈ pr++[x],y.1.op≠0):=⟨⟨Nat.le_refl _,fun _ _ _ h _=>h⟩,Kc.refl _ _,by rw [hsn];exact hI,hnr2⟩
    replace hr:=Zaa hr
    replace hg8:=Zaa hg8
    clear hI hnr hY hxW hsn h1 h2 hnr2
    gi_wp2_with (first|((with_reducible refine Zah 3 ?_);refine Zai 3 (Zan l2) rfl (ld3 c8) ?_)|((with_reducible refine Zah 3 ?_);refine Zai 3 (Zan l2) rfl (ld3 c6) ?_)|((with_reducible refine Zah 3 ?_);refine Zai 3 (Zan l2) rfl (ld3 c5) ?_))
    exact fin.out
   ·have b2:(x.1.op == 1)=false:=by simpa using h2
    rw [if_neg h2] at hsn
    obtain⟨va',vc',hv7,hps⟩:=TgI.push hI hB (by omega) (by omega) x hxW
    have hps2:=Zaa hps
    have hsn2:=Zaa hsn
    have hnr3:=Zaa hnr2
    have h8:=Zaa hg8
    have hv7h:=Zaa hv7
    have h7b:=Zaa (And.intro hB.h7 hX0.out)
    obtain⟨m,hm⟩:∃ m,m=(Zbi 1 pr).length:=⟨_,rfl⟩
    have hm6:m<=1000000:=by omega
    replace hm:=Zaa hm
    replace hr:=Zaa hr
    clear hI hnr hY hxW hsn hg8 h1 h2 hnr2 hps hv7
    gi_wp2_with (first|((with_reducible refine Zah 3 ?_);refine Zai 3 (Zan l2) rfl (ld3 c8) ?_)|((with_reducible refine Zah 3 ?_);refine Zai 3 (Zan l2) rfl (ld3 c6) ?_)|((with_reducible refine Zah 3 ?_);refine Zai 3 (Zan l2) rfl (ld3 c5) ?_))
    refine ZjU l2 _ Wd g7 g8 va' m vc' x.1.op x.1.tx x.2 hm6 (by rw [hm.out];exact hv7h.out) h8.out (fun W'=>TgI Pm w g4 g5 g6 g7 (w7.heap.size+5) 1 0 (Zbi 1 pr++[x.1]) W'/\But (fun k=>k=g7\/w7.heap.size+5<=k/\∃ cur,Wd.heap[k]?=some (Obj.cells cur 30 (0,0))) Wd W') (by rw [hm.out];exact hps2.out) _ _ _ _ _ _ _ _ _ _ _ _ _ _ _ _ _ _ _ _ _ _ _ _ _ _ _ _ _ _ _ _ _ _ _ _ _ _ _ _ _ _ _ _ _ _ (fun X24 X25 W' hF=>?_)
    obtain⟨hg,hb⟩:=hF
    refine⟨⟨hb.size,fun k o hk ho hcs=>(hb.block k (Array.getElem?_eq_some_iff.1 ho).1 (fun h=>by
     rcases h with h|⟨_,cur,h⟩
     ·have:=hgg.out;have:=s7.out;omega
     ·rw [ho] at h;cases h;cases hcs)).trans ho⟩,⟨hb.size,fun k cs t fr hX e=>(hb.block k (Array.getElem?_eq_some_iff.1 e).1 (fun h=>hX (by
     rw [hX0.out]
     have:=hgg.out
     have:=s7.out
     rcases h with h|⟨h,_⟩
     ·exact⟨.inl h,by omega,by omega⟩
     ·exact⟨.inr (by omega),by omega,by omega⟩))).trans e⟩,by rw [hsn2.out];exact hg,hnr3.out⟩
 case done =>
  rintro D xs Wd hD hS ⟨hI,hnr⟩ hK
  rw [hS] at hI hnr
  have htg:=Zm3 hfl.out (fun x hx=>hnr x hx)
  rw [show Zej 4=1 from rfl] at htg
  have hDl:=(Array.getElem?_eq_some_iff.1 hK).1
  have hbel:=hI.bel
  have h4:=Zaa hI.b4
  have c5:=Zal hI.b5 0 (v:=.int .i64 1) rfl
  have hkp:Hid (∀ w8,But (fun k=>k=g4) Wd w8->w8.heap[D]?=some (.deferred (some []))/\Below w.heap.size w w8/\∀ x q,QyV Wd Pm x q->QyV w8 (fun b=>P b\/w.heap.size<=b) x q):=fun w8 b8=>by
   have hB4:=hB.h4
   have bb:Below w.heap.size Wd w8:=b8.below hbel.size (fun k e=>by omega)
   refine⟨(b8.block D hDl (fun e=>by have:=hB.h4;have:=hgg.out;have:=s7.out;omega)).trans hK,hbel.trans bb,fun x q hq=>?_⟩
   exact (hq.kept (w':=w8) (fun b hb _=>bb.block b (hB.old b hb))).mono (fun b _ hb=>.inl (Pw.out b hb).1)
  obtain⟨va',vc',xs',h7,ho,hk⟩:=hI.row
  have c7:=Zal h7 0 rfl
  have ho0:=ZbH ho (Nat.zero_le _)
  rw [<- ZcG (Zbi 1 (ZaL tk [] (flatM mss)))] at ho0
  have hrow:=fun (k:Nat) (q:Qy) (hq:(Zbi 1 (ZaL tk [] (flatM mss)))[k]?=some q)=>Zgq ho0 hk k q (by rw [Zgb];exact hq)
  have hlen2:=Zda 1 (ZaL tk [] (flatM mss))
  have hbig:Hid (2<=(Zbi 1 (ZaL tk [] (flatM mss))).length->∀ w8,But (fun k=>k=g4) Wd w8->QyV w8 (fun b=>P b\/w.heap.size<=b) (qV 4 [] (.slice va' (Zbi 1 (ZaL tk [] (flatM mss))).length vc')) ⟨4,[],fq (Zbi 1 (ZaL tk [] (flatM mss)))⟩):=fun h2 w8 b8=>by
   refine⟨_,xs',rfl,?_,fun b hb=>.inr ?_,?_⟩
   ·show World.ownsRow _ _ _ _ _ (fq _).len _
    rw [ZcG]
    exact ZaC (ZbH ho (Nat.zero_le _)) (fun k hk2=>b8.block k (Zaz ho hk2).2 (fun e=>by have:=(Zaz ho hk2).1;have:=hB.h4;omega))
   ·have:=(Zaz ho hb).1
    have:=s7.out
    omega
   ·have hB4:=hB.h4
    exact (hk.kept (w':=w8) (fun b hb _=>(b8.below (B:=w.heap.size) hbel.size (fun k e=>by omega)).block b (hB.old b hb))).mono (fun b _ hb=>.inl (Pw.out b hb).1)
  generalize Zbi 1 (ZaL tk [] (flatM mss))=left at *
  replace hK:=Zaa hK
  replace htg:=Zaa htg
  replace hrow:=Zaa hrow
  clear hI hnr ho ho0 hk h7 hst hM hQ2 hfl hftl
  cases left with
  | nil =>
   simp only [List.length_nil] at c7
   clear hbig hrow
   gi_wp2_with (first|((with_reducible refine Zah 28 ?_);refine Zai 28 Zad rfl (ZiP c7) ?_)|((with_reducible refine Zah 3 ?_);refine Zai 3 Zad rfl (ld3 c5) ?_)|((with_reducible refine ZcC ?_);refine ZaF Zad (fun c=>nofun) (Zb2 _ 1 rfl _) ?_)|((with_reducible refine Zbx ?_);refine Zbz (o':=1) (t':=[]) (l':=.slice none 0 0) Zad h4.out rfl rfl rfl ?_;intro w8 h48 b8 s8;replace h48:=Zaa h48;have hK8:=Zaa (hkp.out w8 b8).1;have fb8:=Zaa (hkp.out w8 b8).2.1;replace b8:=Zaa b8))
   refine⟨by simp,.inl ⟨_,_,rfl,run_takeDeferred hK8.out,?_⟩⟩
   have B9:=grownBy_putObj' w8 D (.deferred none)
   have h9:=(B9.block g4 (Array.getElem?_eq_some_iff.1 h48.out).1 (fun h=>by cases h;have:=h48.out;rw [hK8.out] at this;cases this)).trans h48.out
   refine⟨_,Zaf rfl _ _ _ _ rfl (ZaY h9),_,rfl,?_,fb8.out.grown B9 fb8.out.size (fun k e=>by cases e;have:=s7.out;omega)⟩
   rw [htg.out]
   exact⟨_,[],rfl,⟨rfl,.inl ⟨rfl,rfl⟩⟩,fun b hb=>(by cases hb),rfl⟩
  | cons q0 rest =>
   cases rest with
   | nil =>
    simp only [List.length_cons,List.length_nil,Nat.zero_add] at c7
    obtain⟨g,cv,hva,hcv,hch⟩:=hrow.out 0 q0 rfl
    subst hva
    have hc0:=Zaa (hch Wd (Kr.refl _))
    clear hbig hrow hch
    gi_wp2_with (first|((with_reducible refine Zah 28 ?_);refine Zai 28 Zad rfl (ZiP c7) ?_)|((with_reducible refine Zah 30 ?_);refine Zai 30 Zad rfl (by simpa using hc0.out.2) ?_)|((with_reducible refine Zbx ?_);refine Zbz (o':=q0.op) (t':=q0.tx) (l':=cv) Zad h4.out rfl rfl hcv ?_;intro w8 h48 b8 s8;replace h48:=Zaa h48;have hK8:=Zaa (hkp.out w8 b8).1;have fb8:=Zaa (hkp.out w8 b8).2.1;have hq8:=Zaa ((hkp.out w8 b8).2.2 _ _ hc0.out.1);replace b8:=Zaa b8))
    refine⟨by simp,.inl ⟨_,_,rfl,run_takeDeferred hK8.out,?_⟩⟩
    have B9:=grownBy_putObj' w8 D (.deferred none)
    have h9:=(B9.block g4 (Array.getElem?_eq_some_iff.1 h48.out).1 (fun h=>by cases h;have:=h48.out;rw [hK8.out] at this;cases this)).trans h48.out
    refine⟨_,Zaf rfl _ _ _ _ rfl (ZaY h9),_,rfl,?_,fb8.out.grown B9 fb8.out.size (fun k e=>by cases e;have:=s7.out;omega)⟩
    rw [htg.out]
    show QyV _ _ _ q0
    exact QyV.kr hq8.out (fun k cs fr e=>(B9.block k (Array.getElem?_eq_some_iff.1 e).1 (fun h=>by cases h;rw [hK8.out] at e;cases e)).trans e)
   | cons q1 rest =>
    have h2m:2<=(q0::q1::rest).length:=by simp
    have hb8:=Zaa (hbig.out h2m)
    have htg2:Hid (tg 4 f.ls=⟨4,[],fq (q0::q1::rest)⟩):=htg.out
    generalize q0::q1::rest=left at *
    obtain⟨m,hm⟩:∃ m,left.length=m:=⟨_,rfl⟩
    rw [hm] at c7 h2m hlen2 hb8
    have m0:((m:Int) == 0)=false:=by simpa using (by omega:¬ (m:Int)=0)
    have m1:((m:Int) == 1)=false:=by simpa using (by omega:¬ (m:Int)=1)
    replace hm:=Zaa hm
    clear hbig hrow htg
    gi_wp2_with (first|((with_reducible refine Zah 28 ?_);refine Zai 28 Zad rfl (ZiP c7) ?_)|((with_reducible refine ZcC ?_);refine ZaF Zad (fun c=>nofun) (ZdM _ 4 va' m vc' rfl rfl _) ?_)|((with_reducible refine Zbx ?_);refine Zbz (o':=4) (t':=[]) (l':=.slice va' m vc') Zad h4.out rfl rfl rfl ?_;intro w8 h48 b8 s8;replace h48:=Zaa h48;have hK8:=Zaa (hkp.out w8 b8).1;have fb8:=Zaa (hkp.out w8 b8).2.1;have hq8:=Zaa (hb8.out w8 b8);replace b8:=Zaa b8))
    refine⟨by simp,.inl ⟨_,_,rfl,run_takeDeferred hK8.out,?_⟩⟩
    have B9:=grownBy_putObj' w8 D (.deferred none)
    have h9:=(B9.block g4 (Array.getElem?_eq_some_iff.1 h48.out).1 (fun h=>by cases h;have:=h48.out;rw [hK8.out] at this;cases this)).trans h48.out
    refine⟨_,Zaf rfl _ _ _ _ rfl (ZaY h9),_,rfl,?_,fb8.out.grown B9 fb8.out.size (fun k e=>by cases e;have:=s7.out;omega)⟩
    rw [htg2.out]
    exact QyV.kr hq8.out (fun k cs fr e=>(B9.block k (Array.getElem?_eq_some_iff.1 e).1 (fun h=>by cases h;rw [hK8.out] at e;cases e)).trans e)
 case stop =>
  rintro D cc pr Wd hD hS ⟨rfl,p,x,h1,h2,h3,h48,fb8⟩ hK8
  have htg:=Zm4 hfl.out h1 (show ∀ y ∈ p,y.1.op≠ZdF 4 from h2) h3
  have hxM:x ∈ flatM mss:=Zcc _ _ _ (h1.subset (by simp))
  have hq8:=(hQ2.out x hxM).kept (w':=Wd) (fun b _ hl=>fb8.block b hl)
  replace htg:=Zaa htg
  replace hq8:=Zaa hq8
  replace h48:=Zaa h48
  replace hK8:=Zaa hK8
  replace fb8:=Zaa fb8
  clear h1 h2 h3 hxM hst
  gi_wp2
  refine⟨by simp,.inl ⟨_,_,rfl,run_takeDeferred hK8.out,?_⟩⟩
  have B9:=grownBy_putObj' Wd D (.deferred none)
  have h9:=(B9.block g4 (Array.getElem?_eq_some_iff.1 h48.out).1 (fun h=>by cases h;have:=h48.out;rw [hK8.out] at this;cases this)).trans h48.out
  refine⟨_,Zaf rfl _ _ _ _ rfl (ZaY h9),_,rfl,?_,fb8.out.grown B9 fb8.out.size (fun k e=>by cases e;have:=s7.out;omega)⟩
  rw [htg.out]
  exact (QyV.kr hq8.out (fun k cs fr e=>(B9.block k (Array.getElem?_eq_some_iff.1 e).1 (fun h=>by cases h;rw [hK8.out] at e;cases e)).trans e)).mono (fun b _ hb=>.inl (Pw.out b hb).1)
end G
namespace G
open Go.RowKit Go.Shelf
theorem Qf.len_snoc:∀ (f:Qf)(q:Qy),(f.snoc q).len=f.len+1
 | .nil,q=>rfl
 | .cons o t k r,q=>by simp [Qf.snoc,Qf.len,Qf.len_snoc r q]
theorem ZiS:∃ i,Tryz.prog.info? 30=some i/\i.zero=some (qV 0 [] (.slice none 0 0))/\i.size=3/\i.bytes=48:=by
 obtain⟨i,a,b,c,d⟩:=info_parts infoQ
 exact⟨i,a,b,c,d⟩
def Rq (w:World)(base:Nat)(v:Value)(f:Qf):Prop:=∃ xs,w.ownsRow base 30 3 v f.len xs/\Kq w (fun b=>base<=b/\v.ownBlock≠some b) f xs
theorem Rq.start (w:World)(base:Nat):Rq w base (.slice none 0 0) .nil:=⟨[],⟨rfl,.inl ⟨rfl,rfl⟩⟩,rfl⟩
theorem Rq.kept {w w':World}{base:Nat}{v:Value}{f:Qf}(h:Rq w base v f)(hb:∀ b,base<=b->b<w.heap.size->w'.heap[b]?=w.heap[b]?):Rq w' base v f:=by
 obtain⟨xs,o,k⟩:=h
 exact⟨xs,ZaC o (fun b hk=>hb b (Zaz o hk).1 (Zaz o hk).2),k.kept (fun b hP hl=>hb b hP.1 hl)⟩
theorem Rq.lt {w:World}{base:Nat}{v:Value}{f:Qf}(h:Rq w base v f){k:Nat}(hk:v.ownBlock=some k):base<=k/\k<w.heap.size:=by
 obtain⟨xs,o,_⟩:=h
 exact Zaz o hk
section
variable {S:Nat->Prop}{w0 w w':World}{L:List Ent}{ops:Array Oper}{rest:List Oper}{a:Act}{Q:Exit->Act->World->Prop}{x y:Operand}{ty ty2:TypeId}{pos pos2:String}{after after2:Array Edge}
theorem ZjV {d1 d2:Nat}{s x:Operand}(h:wpList Tryz.prog ops Q (⟨some d1,.buildSlice 28 1 #[(0,x)],ty,pos,after,none⟩::⟨some d2,.call { callee:=.builtin .append,args:=#[s,.tmp d1],argTypes:=#[28,28] },ty2,pos2,after2,none⟩::rest) a w) :
  wpList Tryz.prog ops Q (⟨some d1,.buildSlice 28 1 #[(0,x)],ty,pos,after,none⟩::⟨some d2,.call { callee:=.builtin .append,args:=#[s,.tmp d1],argTypes:=#[28,28] },ty2,pos2,after2,none⟩::rest) a w:=h
theorem ZjW {d1 d2:Nat}{s:Operand}(H:St S w0 w L){base m:Nat}{v z:Value}{f:Qf}{t:Qy}(R:Rq w base v f)(T:QyV w (fun b=>m<=b) z t)(hs:∀ u,(a.put (some d1) u).eval s=v)(ht:∀ u,(a.put (some d1) u).eval (.tmp d1)=u)(hx:a.eval x=z)
  (hm:∀ k,v.ownBlock=some k->k<m) (hbm:base<=m) (hmw:m<=w.heap.size) (hf:f.len<=1000000) (hL:∀ e ∈ L,e.2.1<base) (h0:w0.heap.size<=base)
  (k:∀ u v2 w2,St S w0 w2 L->Rq w2 base v2 (f.snoc t)->w.heap.size<=w2.heap.size->wpList Tryz.prog ops Q rest ((a.put (some d1) u).put (some d2) v2) w2) :
  wpList Tryz.prog ops Q (⟨some d1,.buildSlice 28 1 #[(0,x)],ty,pos,after,none⟩::⟨some d2,.call { callee:=.builtin .append,args:=#[s,.tmp d1],argTypes:=#[28,28] },ty2,pos2,after2,none⟩::rest) a w:=by
 obtain⟨i0,hi,hz0,hz1,hz2⟩:=ZiS
 obtain⟨u,zs,rfl,o,p,kd⟩:=T
 obtain⟨xs,ro,rk⟩:=R
 obtain⟨ua,uc,hu,_,_⟩:=Za8 o
 have hu1:u.oneCell'=true:=by rw [hu];rfl
 refine wpList_plain rfl fun K hK=>?_
 unfold Oper.wp execOp
 simp only [List.map_toArray,List.map_cons,List.map_nil,hx,Sem.run_bind,ZdK,Result.andThen_ok,Sem.run_pure]
 refine hK _ _ ?_
 generalize hA:qA t.op t.tx u=A at *
 have hAl:A.toList.length=3:=by rw [<- hA];rfl
 have hold:∀ b,b<w.heap.size->(w.alloc (.cells A 30)).heap[b]?=w.heap[b]?:=fun b hb=>Below.heap_alloc _ _ _ hb
 refine wpList_append_lies (P:=Tryz.prog) (w:=w.alloc (.cells A 30)) rfl s (.tmp d1) 28 rfl base 30 i0 (qV 0 [] (.slice none 0 0)) 3 48 Tryz.underlying28 hi hz0 hz1 hz2 rfl (by decide) v f.len xs (hs _) (ZaC ro (fun b hb=>hold b (Zaz ro hb).2)) ⟨w.heap.size,0,none⟩ 1 1 A.toList (ht _) (by omega) ?_ (by rw [<- hA];exact fun u hu=>Array.all_eq_true'.1 (ZeY hu1) u (by simpa using hu)) (by omega) (by unfold maxLen;omega) (by omega) (by simp;omega) (w.heap.size+1) (by simp) ?_
 ·intro j v' hj
  rw [Zav,Nat.zero_add,cell_of_row _ _ _ _ _ _ (heap_alloc_new w _)]
  simpa using hj
 ·intro g cap w2 hown hg hat hlt
  have H1:=(H.alloc 30 A).tail
  have hsz:w.heap.size<=w2.heap.size:=by have:=hg.size;simp at this;omega
  refine k _ _ w2 (H1.grown hg (fun j hj=>⟨fun e he=>?_,fun hl=>?_⟩)) ⟨xs++A.toList,by rw [Qf.len_snoc];exact hown,?_⟩ hsz
  ·have:=hL e he
   have:=Zaz ro hj
   omega
  ·have:=Zaz ro hj
   omega
  ·have keep:∀ b,b<w.heap.size->v.ownBlock≠some b->w2.heap[b]?=w.heap[b]?:=fun b hb hn=>by
    rw [hg.block b (by simp;omega) (fun e=>hn e.symm),hold b hb]
   have ne:∀ b,b<w.heap.size->v.ownBlock≠some b->(Value.slice (some ⟨g,0,none⟩) (f.len+1) cap).ownBlock≠some b:=fun b hb hn e=>by
    have e2:g=b:=by simpa [Value.ownBlock] using e
    rcases hat with h|h
    ·exact hn (by rw [h,e2])
    ·omega
   have far:∀ b,m<=b->v.ownBlock≠some b:=fun b hb e=>by have:=hm b e;omega
   have step:∀ {ff:Qf} {ys:List Value} {PP:Nat->Prop},Kq w PP ff ys->(∀ b,PP b->base<=b/\v.ownBlock≠some b)->Kq w2 (fun b=>base<=b/\(Value.slice (some ⟨g,0,none⟩) (f.len+1) cap).ownBlock≠some b) ff ys:=fun hk hP =>
    ((hk.mono (P':=fun b=>(base<=b/\(Value.slice (some ⟨g,0,none⟩) (f.len+1) cap).ownBlock≠some b)/\v.ownBlock≠some b) (fun b hb hp=>⟨⟨(hP b hp).1,ne b hb (hP b hp).2⟩,(hP b hp).2⟩)).kept (w':=w2) (fun b hp hl=>keep b hl hp.2)).mono (fun b _ hp=>hp.1)
   have o2:=ZaC (w':=w2) o (fun b hb=>keep b (Zaz o hb).2 (far b (p b hb)))
   rw [<- hA]
   refine Kq.snoc o2 (fun b hb=>⟨by have:=p b hb;omega,ne b (Zaz o hb).2 (far b (p b hb))⟩) (step kd (fun b hb=>⟨by omega,far b hb⟩)) (step rk (fun b hb=>hb))
end
theorem Zm5 (s:Tx)(hs:s.length<=1000000)(w:World):Calls Tryz.prog 13 #[encStr s] w fun e w'=>∃ v,e=.returned v/\w'.ownsRow w.heap.size 9 1 v (ZaE s).length ((ZaE s).map encStr)/\Below w.heap.size w w' :=
 callsIn_wide.1 (ZmR 5 (Nat.le_refl _) s hs w)
theorem Zcg (op:Int)(hop:op=3\/op=4)(P:Nat->Prop)(v:Value)(f:Qf)(zs:List Value)(w:World)(ho:w.ownsRow 0 30 3 v f.len zs)(hp:∀ b,v.ownBlock=some b->P b)(hk:Kq w P f zs)(hlen:f.len<=100000)(htl:∀ q ∈ Zb0 op f.ls,q.tell.length<=1000000000)(hol:(Zb0 op f.ls).length<=100000) :
  Calls Tryz.prog 131 #[.int .i64 op,v] w fun e w'=>∃ x,e=.returned x/\QyV w' (fun b=>P b\/w.heap.size<=b) x (tg op f.ls)/\Below w.heap.size w w':=by
 rcases hop with rfl|rfl
 ·exact callsIn_wide.1 (ZhF 6 (Nat.le_refl _) P v f zs w ho hp hk hlen htl hol)
 ·exact callsIn_wide.1 (ZhG 6 (Nat.le_refl _) P v f zs w ho hp hk hlen htl hol)
end G
namespace G
open Go.RowKit Go.Shelf
theorem ZjX:∀ ts:List Tx,(Za1 ts).length<=(ts.map (fun t=>t.length+1)).sum
 | []=>Nat.le_refl _
 | t::r=>by
  have:=ZjX r
  rw [Zby]
  cases r with
  | nil=>simp [Zfh]
  | cons y s =>
   show (t++32::Za1 (y::s)).length<=_
   simp only [List.length_append,List.length_cons,List.map_cons,List.sum_cons] at *
   omega
theorem Zgs:∀ f:Qf,f.ok->(f.tells.map (fun t=>t.length+1)).sum<=7 * f.sz
 | .nil,_=>Nat.zero_le _
 | .cons o t k r,⟨h1,h2,h3⟩=>by
  have a:=Zgs k h2
  have b:=Zgs r h3
  have c:=ZjX k.tells
  have d:(Zcx o t k.tells).length+1<=7 * (1+k.sz):=by
   unfold Zcx
   rcases h1 with⟨rfl|rfl,_⟩|⟨rfl,ht,_⟩|⟨rfl|rfl,_⟩ <;> simp <;> omega
  simp only [Qf.tells,List.map_cons,List.sum_cons,Qf.sz] at *
  omega
theorem Zm6 {q:Qy}(h:q.ok):q.tell.length+1<=7 * q.sz:=by
 have:=Zgs (.cons q.op q.tx q.l .nil) ⟨h.1,h.2,trivial⟩
 simp only [Qf.tells,List.map_cons,List.map_nil,List.sum_cons,List.sum_nil,Qf.sz] at this
 simp only [Qy.tell,Qy.sz]
 omega
theorem sz_len (l:List Qy):l.length<=(l.map Qy.sz).sum:=by
 induction l with
 | nil=>exact Nat.le_refl _
 | cons q r ih =>
          simp only [List.length_cons,List.map_cons,List.sum_cons];have:1<=q.sz:=by simp [Qy.sz]
          omega
theorem ZcD (op:Int)(hop:op=3\/op=4)(P:Nat->Prop)(v:Value)(l:List Qy)(zs:List Value)(w:World)(ho:w.ownsRow 0 30 3 v l.length zs)(hp:∀ b,v.ownBlock=some b->P b)(hk:Kq w P (fq l) zs)(hok:∀ q ∈ l,q.ok)(hsz:(l.map Qy.sz).sum<=100000) :
  Calls Tryz.prog 131 #[.int .i64 op,v] w fun e w'=>∃ x,e=.returned x/\QyV w' (fun b=>P b\/w.heap.size<=b) x (tg op l)/\Below w.heap.size w w':=by
 have h1:=sz_len l
 have h2:=Zmi op l
 have h3:=sz_len (Zb0 op l)
 rw [<- ZcG l] at ho
 have:=Zcg op hop P v (fq l) zs w ho hp hk (by rw [ZcG];omega) (by
  rw [Zgb]
  intro q hq
  have a:=Zm6 (Zge hok q hq)
  have b:=ZiC Qy.sz hq
  omega) (by rw [Zgb];omega)
 rw [Zgb] at this
 exact this
section
variable {S:Nat->Prop}{w0 w w':World}{L:List Ent}{ops:Array Oper}{rest:List Oper}{o:Oper}{a:Act}{Q:Exit->Act->World->Prop}{dst:Option Nat}{x y:Operand}{ty:TypeId}{pos:String}{after:Array Edge}
theorem Zd5 {ps:Array (Nat × Operand)}(h:wpList Tryz.prog ops Q (⟨dst,.build 30 ps,ty,pos,after,none⟩::rest) a w):wpList Tryz.prog ops Q (⟨dst,.build 30 ps,ty,pos,after,none⟩::rest) a w:=h
end
abbrev tq3 (s:Tx):Qy:=tg 3 ((ZaE s).map Zb1)
theorem gramV (w:World)(P:Nat->Prop)(g:Tx):QyV w P (qV 2 g (.slice none 0 0)) (Zb1 g):=⟨_,[],rfl,⟨rfl,.inl ⟨rfl,rfl⟩⟩,fun b hb=>(by cases hb),rfl⟩
theorem ZjY (l:List Tx):((l.map Zb1).map Qy.sz).sum=l.length:=by
 induction l with
 | nil=>rfl
 | cons x r ih=>simp only [List.map_cons,List.sum_cons,List.length_cons,ih];simp [Zb1,Qy.sz,Qf.sz];omega
theorem ZjZ {w w':World}{base:Nat}{va:Option Addr}{vc:Nat}{ts:List Tx}(ho:w.ownsRow base 9 1 (.slice va ts.length vc) ts.length (ts.map encStr)){k:Nat}{s:Tx}(hs:ts[k]?=some s)(hb:Below w.heap.size w w'):∃ g,va=some ⟨g,0,none⟩/\w'.cell? ⟨g,k,none⟩=some (encStr s):=by
 rcases ho.2 with⟨h1,h2⟩|⟨g,cap,cur,hv,_,hg,_⟩
 ·have:=(List.getElem?_eq_some_iff.1 hs).1
  omega
 ·cases hv
  refine⟨g,rfl,?_⟩
  have:=ho.cells (g:=g) rfl k (encStr s) (by rw [List.getElem?_map,hs];rfl)
  rw [Zav,Nat.zero_add] at this
  exact (hb.cell (p:=⟨g,k,none⟩) (Array.getElem?_eq_some_iff.1 hg).1).trans this
theorem Rq.row {w:World}{base:Nat}{v:Value}{l:List Qy}(h:Rq w base v (fq l)):∃ zs,w.ownsRow base 30 3 v l.length zs/\Kq w (fun b=>base<=b) (fq l) zs/\(∀ k,v.ownBlock=some k->base<=k):=by
 obtain⟨xs,h1,h2⟩:=h
 rw [ZcG] at h1
 exact⟨xs,h1,h2.mono (fun b _ hb=>hb.1),fun k hk=>(Zaz h1 hk).1⟩
end G
namespace G
open Go.RowKit Go.Shelf
theorem Rq.top {w:World}{base:Nat}{v:Value}{f:Qf}(h:Rq w base v f):∀ k,v.ownBlock=some k->k<w.heap.size:=fun k hk=>(h.lt hk).2
theorem tq3_ok (s:Tx):(tq3 s).ok:=Zkw (.inl rfl) (fun q hq=>by
 obtain⟨x,hx,rfl⟩:=List.mem_map.1 hq
 exact Zgg (Zcw hx))
theorem tq3_sz {ts:List Tx}(hB:Bd ts):((ts.map tq3).map Qy.sz).sum<=1000:=by
 have:=sum_le Qy.sz (ts.map tq3) 31 (fun q hq=>by
  obtain⟨s,hs,rfl⟩:=List.mem_map.1 hq
  have h1:=Zmk 3 ((ZaE s).map Zb1)
  rw [ZjY] at h1
  have h2:=Ziv (Zbq s)
  have h3:=Zcb s
  have h4:=hB.2.1 s hs
  have h5:(ZaE s).length<=30:=by
   show (ups (Zbq s)).length<=30
   omega
  show (tg 3 ((ZaE s).map Zb1)).sz<=31
  omega)
 have h2:=hB.1
 rw [List.length_map] at this
 omega
set_option maxRecDepth 100000 in
theorem Ze1 (ts:List Tx)(hB:Bd ts)(v:Value)(w:World)(ho:w.ownsRow 0 9 1 v ts.length (ts.map encStr)) :
  Calls Tryz.prog 81 #[v] w fun e w'=>∃ x,e=.returned x/\QyV w' (fun b=>w.heap.size<=b) x (Zba ts)/\Below w.heap.size w w':=by
 obtain⟨va,vc,rfl⟩:∃ va vc,v=.slice va ts.length vc:=by
  rcases ho.2 with⟨rfl,h⟩|⟨g,cap,cur,rfl,_⟩
  ·exact⟨_,_,by rw [h]⟩
  ·exact⟨_,_,rfl⟩
 have row:=Zaa (fun (k:Nat) (s:Tx) (hs:ts[k]?=some s) (w':World) (hb:Below w.heap.size w w')=>ZjZ ho hs hb)
 have hts:ts.length<=32:=hB.1
 have hsz:=Zaa (Zd1 hB)
 replace hB:=Zaa hB
 have H:=St.start Nope w
 clear ho
 go_enter Tryz.func81,Tryz.ntmps81
 go_wp2_with (first|((with_reducible refine Zae 30 ?_);refine Zbc H ?_;clear H;intro g2 w1 H q1 q2))
 have hg2:=H.lti 0 rfl
 have hw1:=H.below.size
 go_loopw [3,11] (fun lv iv wr=>∃ (k:Nat),k<=ts.length/\iv=.int .i64 (k:Int)/\Hid (Rq wr w1.heap.size lv (fq ((ts.take k).map tq3)))/\Hid (St Nope w wr [(true,g2,30,qA 0 [] (.slice none 0 0))])/\Hid (w1.heap.size<=wr.heap.size)) (fun _ iv _=>ts.length - (intOf iv).toNat)
 case atStart=>exact⟨0,Nat.zero_le _,rfl,Rq.start _ _,H,Nat.le_refl _⟩
 case round =>
  clear H
  obtain⟨k,hk,rfl,R,H,hws⟩:=hrel
  by_cases hlt:k<ts.length
  ·have i3:(k:Int)<(ts.length:Int):=by omega
   obtain⟨s,hs⟩:∃ s,ts[k]?=some s:=⟨_,List.getElem?_eq_getElem (hlt)⟩
   have hsl:s.length<=32:=hB.out.2.1 s (List.mem_of_getElem? hs)
   obtain⟨g,hva,hcell⟩:=row.out k s hs wr H.out.below
   subst hva
   have htk:Hid ((ts.take (k+1)).map tq3=(ts.take k).map tq3++[tq3 s]):=by
    show _=_
    rw [List.take_add_one,hs];simp
   replace hs:=Zaa hs
   have GA:=Zaa (Zm5 s (by omega) wr)
   go_wp2_with (go_at_call 13;refine GA.out.mono ?_)
   rintro e w2 ⟨v2,rfl,o2,B2⟩
   obtain⟨va2,vc2,rfl⟩:∃ va2 vc2,v2=.slice va2 (ZaE s).length vc2:=by
    rcases o2.2 with⟨rfl,h⟩|⟨g,cap,cur,rfl,_⟩
    ·exact⟨_,_,by rw [h]⟩
    ·exact⟨_,_,rfl⟩
   have hgl:(ZaE s).length<=30:=by
    have h1:=Ziv (Zbq s)
    have h2:=Zcb s
    show (ups (Zbq s)).length<=30
    omega
   have row2:=Zaa (fun (k:Nat) (g:Tx) (hs:(ZaE s)[k]?=some g) (w':World) (hb:Below w2.heap.size w2 w')=>ZjZ o2 hs hb)
   have hok:Hid (∀ q ∈ (ZaE s).map Zb1,q.ok):=fun q hq=>by
    obtain⟨x,hx,rfl⟩:=List.mem_map.1 hq
    exact Zgg (Zcw hx)
   obtain⟨G,hG⟩:∃ G,G=ZaE s:=⟨_,rfl⟩
   rw [<- hG] at hgl row2 hok ⊢
   replace hG:=Zaa hG
   have H2:=St.start Nope w2
   have B2h:=Zaa B2
   have sw2:=Zaa B2.size
   clear o2 B2 GA
   go_wp2
   go_loopw [6,18] (fun av jv wj=>∃ (j:Nat),j<=G.length/\jv=.int .i64 (j:Int)/\Hid (Rq wj w2.heap.size av (fq ((G.take j).map Zb1)))/\Hid (St Nope w2 wj [])/\Hid (w2.heap.size<=wj.heap.size)) (fun _ jv _=>G.length - (intOf jv).toNat)
   case atStart=>exact⟨0,Nat.zero_le _,rfl,Rq.start _ _,H2,Nat.le_refl _⟩
   case round =>
    clear H2
    obtain⟨j,hj,rfl,R2,H2,hwj⟩:=hrel
    by_cases hlj:j<G.length
    ·have i4:(j:Int)<(G.length:Int):=by omega
     obtain⟨x,hx⟩:∃ x,G[j]?=some x:=⟨_,List.getElem?_eq_getElem hlj⟩
     obtain⟨gg,hva2,hcell2⟩:=row2.out j x hx _ H2.out.below
     subst hva2
     have hxk:Hid ((fq ((G.take j).map Zb1)).snoc (Zb1 x)=fq ((G.take (j+1)).map Zb1)):=by
      show _=_
      rw [Zdt,List.take_add_one,hx];simp
     have hR2:=R2.out
     have hH2:=H2.out
     have hRl:=Zaa hR2.top
     have hfl2:Hid ((fq ((G.take j).map Zb1)).len<=1000000):=by
      show _<=_
      rw [ZcG,List.length_map,List.length_take];omega
     replace hx:=Zaa hx
     clear R2 H2
     go_wp2_with (first|((with_reducible refine Zd5 ?_);refine ZaI (Zgr _ x rfl rfl _) ?_)|((with_reducible refine ZjV ?_);refine ZjW (t:=Zb1 x) hH2 hR2 (gramV _ _ x) (fun _=>rfl) (fun _=>rfl) rfl hRl.out hwj.out (Nat.le_refl _) hfl2.out (fun e he=>(List.not_mem_nil he).elim) (Nat.le_refl _) ?_;intro u v3 w3 H3 R3 s3))
     rw [hxk.out] at R3
     have R3h:=Zaa R3
     have H3h:=Zaa H3
     have s3h:Hid (w2.heap.size<=w3.heap.size):=Nat.le_trans hwj.out s3
     clear R3 H3 s3 hH2 hR2 hRl hfl2
     go_wp2
     go_roundw
     case rel=>exact⟨j+1,by omega,by simp,R3h,H3h,s3h⟩
     case measure=>simp [intOf];omega
    ·obtain rfl:j=G.length:=by omega
     have i4:¬ ((G.length:Int)<(G.length:Int)):=by omega
     rw [List.take_of_length_le (Nat.le_refl _)] at R2
     obtain⟨zs,oo,kk,pp⟩:=Rq.row R2.out
     have TG:=Zaa (ZcD 3 (.inl rfl) (fun b=>w2.heap.size<=b) _ _ zs _ (ZbH oo (Nat.zero_le _)) pp kk hok.out (by rw [ZjY];omega))
     have b24:=Zaa H2.out.below
     clear oo kk pp R2 H2
     go_wp2_with (go_at_call 131;refine TG.out.mono ?_)
     intro e w4 x he hq B4
     subst he
     have s24:=b24.out.size
     have T4:=hq.mono (P':=fun b=>w2.heap.size<=b) (fun b _ hb=>by rcases hb with h|h <;> omega)
     have bb:=B2h.out.trans ((b24.out.mono sw2.out).trans (B4.mono (Nat.le_trans sw2.out s24)))
     have R4:=R.out.kept (fun b _ hl=>bb.block b hl)
     have H4:=H.out.call bb (Nat.le_refl _)
     have hRl:=Zaa R.out.top
     have s4:w2.heap.size<=w4.heap.size:=Nat.le_trans s24 B4.size
     have hfl2:Hid ((fq ((ts.take k).map tq3)).len<=1000000):=by
      show _<=_
      rw [ZcG,List.length_map,List.length_take];omega
     have hxk:Hid ((fq ((ts.take k).map tq3)).snoc (tq3 s)=fq ((ts.take (k+1)).map tq3)):=by
      show _=_
      rw [Zdt,htk.out]
     have T4':QyV w4 (fun b=>w2.heap.size<=b) x (tq3 s):=by rw [hG.out] at T4;exact T4
     have lt2:Hid (∀ k,(_:Value).ownBlock=some k->k<w2.heap.size):=fun k hk=>Nat.lt_of_lt_of_le (hRl.out k hk) sw2.out
     clear TG hq B4 T4 bb
     go_wp2_with ((with_reducible refine ZjV ?_);refine ZjW (t:=tq3 s) H4 R4 T4' (fun _=>rfl) (fun _=>rfl) rfl lt2.out (Nat.le_trans hws.out sw2.out) s4 hfl2.out (fun e he=>by rw [List.mem_singleton.1 he];exact hg2) hw1 ?_;intro u v5 w5 H5 R5 s5)
     rw [hxk.out] at R5
     have R5h:=Zaa R5
     have H5h:=Zaa H5
     have s5h:Hid (w1.heap.size<=w5.heap.size):=Nat.le_trans hws.out (Nat.le_trans sw2.out (Nat.le_trans s4 s5))
     clear R5 H5 s5 H4 R4 T4'
     go_wp2
     go_roundw
     case rel=>exact⟨k+1,by omega,by simp,R5h,H5h,s5h⟩
     case measure=>simp [intOf];omega
  ·obtain rfl:k=ts.length:=by omega
   have i4:¬ ((ts.length:Int)<(ts.length:Int)):=by omega
   rw [List.take_of_length_le (Nat.le_refl _)] at R
   obtain⟨zs,oo,kk,pp⟩:=Rq.row R.out
   have TG:=Zaa (ZcD 4 (.inr rfl) (fun b=>w1.heap.size<=b) _ _ zs _ (ZbH oo (Nat.zero_le _)) pp kk (fun q hq=>by
    obtain⟨s,_,rfl⟩:=List.mem_map.1 hq
    exact tq3_ok s) (by have:=tq3_sz hB.out;omega))
   clear oo kk pp R
   go_wp2_with (go_at_call 131;refine TG.out.mono ?_)
   intro e w4 x he hq B4
   subst he
   have H4:=H.out.call B4 (Nat.le_refl _)
   have hq2:=Zaa (hq.mono (P':=fun b=>w1.heap.size<=b) (fun b _ hb=>by have:=hws.out;rcases hb with h|h <;> omega))
   obtain⟨xv,xzs,rfl,xo,xp,xk⟩:=hq2.out
   have hone:=ZcU xo
   clear TG hq B4 xo xp xk
   have h4g:=Zaa (H4.get 0 rfl)
   have h4b:=Zaa H4.below
   clear H4
   go_wp2_with (first|((with_reducible refine Zab 30 ?_);refine ZaQ 30 (v:=qV (Zba ts).op (Zba ts).tx xv) rfl rfl (ZcB h4g.out hone) ?_))
   refine bodyPost_ret (Zaf rfl _ _ _ _ rfl (ZaY (setRow_heap _ _ _ _ 30 (0,0) h4g.out))) rfl ?_
   refine⟨_,rfl,?_,?_⟩
   ·exact (QyV.kept (w':=w4.setRow g2 (qA (Zba ts).op (Zba ts).tx xv)) (show QyV w4 _ _ (Zba ts) from hq2.out) (fun b hb _=>setRow_other _ _ _ _ (by omega))).mono (fun b _ hb=>by omega)
   ·exact h4b.out.trans ⟨rfl,rfl,rfl,by simp,fun k hk=>setRow_other _ _ _ _ (by omega)⟩
end G
namespace G
open Go.RowKit Go.Shelf
def pA (b:Bool)(tv:Value)(o:Int)(t:Tx)(lv:Value):Array Value:=#[.bool b,tv,.int .i64 o,encStr t,lv]
def pV (b:Bool)(tv:Value)(o:Int)(t:Tx)(lv:Value):Value:=.agg (pA b tv o t lv)
theorem sizeP:(Tryz.prog.info? 85).map (·.size)=some 5:=by kernel_rfl
theorem infoP:(Tryz.prog.info? 85).map (fun i=>(i.zero,i.size,i.bytes))=some (some (pV false (.slice none 0 0) 0 [] (.slice none 0 0)),5,80):=by kernel_rfl
theorem Zj0 {b:Bool}{tv:Value}{o:Int}{t:Tx}{v:Value}(ht:tv.oneCell'=true)(hv:v.oneCell'=true):(pA b tv o t v).all (·.oneCell')=true:=by
 have h1:∀ k n,(Value.int k n).oneCell'=true:=fun _ _=>rfl
 have h2:(encStr t).oneCell'=true:=rfl
 have h3:∀ b,(Value.bool b).oneCell'=true:=fun _=>rfl
 simp [pA,ht,hv,h1,h2,h3]
abbrev nilS:Value:=.slice none 0 0
theorem ZiT (dst:Option Nat)(ty:TypeId)(pos:String)(after:Array Edge)(ev:Operand->Value)(w:World):(execOp ev ⟨dst,.alloc 85,ty,pos,after,none⟩).run Tryz.prog w=.ok (.value (.pointer (some ⟨w.heap.size,0,none⟩))) (w.alloc (.cells (pA false nilS 0 [] nilS) 85)):=by
 unfold execOp
 kernel_rfl
theorem Zm7 (dst:Option Nat)(ty:TypeId)(pos:String)(after:Array Edge)(ev:Operand->Value)(x:Operand)(b:Bool)(tv:Value)(o:Int)(t:Tx)(l:Value)(hx:ev x=pV b tv o t l)(w:World):(execOp ev ⟨dst,.box 85 x,ty,pos,after,none⟩).run Tryz.prog w=.ok (.value (.pointer (some ⟨w.heap.size,0,none⟩))) (w.alloc (.cells (pA b tv o t l) 85)):=by
 unfold execOp
 simp only [hx]
 kernel_rfl
theorem ZbQ {w:World}{g:Nat}{b:Bool}{tv:Value}{o:Int}{t:Tx}{l:Value}(h:w.heap[g]?=some (.cells (pA b tv o t l) 85 (0,0))):(loadVar 85 ⟨g,0,none⟩).run Tryz.prog w=.ok (pV b tv o t l) w :=
 run_loadVar_row w g 85 85 _ (0,0) _ h Tryz.underlying85 rfl sizeP
theorem Zbs {w:World}{g:Nat}{b b':Bool}{tv tv':Value}{o o':Int}{t t':Tx}{l l':Value}(h:w.heap[g]?=some (.cells (pA b tv o t l) 85 (0,0)))(ht:tv'.oneCell'=true)(hl:l'.oneCell'=true):(storeVar 85 ⟨g,0,none⟩ (pV b' tv' o' t' l')).run Tryz.prog w=.ok () (w.setRow g (pA b' tv' o' t' l')) :=
 run_storeVar_row w g 85 85 _ _ h sizeP rfl (Zj0 ht hl)
theorem Zm8 {w:World}{g off:Nat}{b:Bool}{tv:Value}{o:Int}{t:Tx}{l:Value}(h:∀ j v,(pA b tv o t l)[j]?=some v->w.cell? ⟨g,off+j,none⟩=some v):(loadVar 85 ⟨g,off,none⟩).run Tryz.prog w=.ok (pV b tv o t l) w:=by
 have h0:=h 0 _ rfl
 have h1:=h 1 _ rfl
 have h2:=h 2 _ rfl
 have h3:=h 3 _ rfl
 have h4:=h 4 _ rfl
 have hz:∀ w,(sizeOf 85).run Tryz.prog w=.ok 5 w:=fun w=>by kernel_rfl
 have ha:∀ w,(isAgg 85).run Tryz.prog w=.ok true w:=fun w=>by kernel_rfl
 simp only [Nat.add_zero] at h0
 simp [loadVar,hz,ha,loadCells,go_sem,h0,h1,h2,h3,h4,Zav]
 rfl
theorem load30p {w:World}{g:Nat}{b:Bool}{tv:Value}{o:Int}{t:Tx}{l:Value}(h:w.heap[g]?=some (.cells (pA b tv o t l) 85 (0,0))):(loadVar 30 ⟨g,2,none⟩).run Tryz.prog w=.ok (qV o t l) w:=by
 refine ZeX (fun j v hj=>?_)
 rw [cell_of_row w g (2+j) _ 85 (0,0) h]
 have hl:j<3:=(Array.getElem?_eq_some_iff.1 hj).1
 rcases (show j=0\/j=1\/j=2 by omega) with rfl|rfl|rfl <;> exact hj
section
variable {S:Nat->Prop}{w0 w w':World}{L:List Ent}{ops:Array Oper}{rest:List Oper}{a:Act}{Q:Exit->Act->World->Prop}{dst:Option Nat}{x y:Operand}{ty:TypeId}{pos:String}{after:Array Edge}
theorem Za0 (H:St S w0 w L)(h:∀ g w',St S w0 w' ((true,g,85,pA false nilS 0 [] nilS)::L)->w0.heap.size<=g->w.heap.size<=g->wpList Tryz.prog ops Q rest (a.put dst (.pointer (some ⟨g,0,none⟩))) w'):wpList Tryz.prog ops Q (⟨dst,.alloc 85,ty,pos,after,none⟩::rest) a w :=
 Zc1 85 _ H (fun w=>ZiT _ _ _ _ _ w) h
theorem ZdN (H:St S w0 w L){b:Bool}{tv:Value}{o:Int}{t:Tx}{l:Value}(hx:a.eval x=pV b tv o t l)(h:∀ g w',St S w0 w' ((true,g,85,pA b tv o t l)::L)->w0.heap.size<=g->w.heap.size<=g->wpList Tryz.prog ops Q rest (a.put dst (.pointer (some ⟨g,0,none⟩))) w'):wpList Tryz.prog ops Q (⟨dst,.box 85 x,ty,pos,after,none⟩::rest) a w:=by
 refine wpList_plain rfl fun K hK=>?_
 unfold Oper.wp
 rw [Zm7 _ _ _ _ _ _ b tv o t l hx,Oper.upon_value]
 exact hK _ _ (h _ _ (H.alloc 85 _) H.but.size (Nat.le_refl _))
theorem Zgt (i j:Nat)(H:St S w0 w L){b:Bool}{g:Nat}{t:TypeId}{xs:Array Value}{v:Value}(h:L[i]?=some (b,g,t,xs))(hv:xs[j]?=some v)(hx:a.eval x=.pointer (some ⟨g,j,none⟩))(k:wpList Tryz.prog ops Q rest (a.put dst v) w):wpList Tryz.prog ops Q (⟨dst,.load 43 x,ty,pos,after,none⟩::rest) a w:=Zau 43 hx (ZmQ (H.cell i j h hv)) k
theorem Zbo {ps:Array (Nat × Operand)}(h:wpList Tryz.prog ops Q (⟨dst,.build 85 ps,ty,pos,after,none⟩::rest) a w):wpList Tryz.prog ops Q (⟨dst,.build 85 ps,ty,pos,after,none⟩::rest) a w:=h
theorem Zb3 (ev:Operand->Value)(va:Option Addr)(m c:Nat)(h0:ev x=.bool true)(h1:ev y=.slice va m c)(w:World):(execOp ev ⟨dst,.build 85 #[(0,x),(1,y)],ty,pos,after,none⟩).run Tryz.prog w=.ok (.value (pV true (.slice va m c) 0 [] nilS)) w:=by
 unfold execOp
 simp only [List.map_toArray,List.map_cons,List.map_nil,h0,h1]
 kernel_rfl
theorem ZbA (ev:Operand->Value)(o:Int)(t:Tx)(va:Option Addr)(m c:Nat)(h0:ev x=qV o t (.slice va m c))(w:World):(execOp ev ⟨dst,.build 85 #[(2,x)],ty,pos,after,none⟩).run Tryz.prog w=.ok (.value (pV false nilS o t (.slice va m c))) w:=by
 unfold execOp
 simp only [List.map_toArray,List.map_cons,List.map_nil,h0]
 kernel_rfl
end
def PaV (w:World)(P:Nat->Prop)(x:Value):Pt->Prop
 | .told ts=>∃ tv,x=pV true tv 0 [] nilS/\w.ownsRow 0 9 1 tv ts.length (ts.map encStr)/\(∀ b,tv.ownBlock=some b->P b)
 | .ask q=>∃ lv,x=pV false nilS q.op q.tx lv/\QyV w P (qV q.op q.tx lv) q
theorem QyV.one {w:World}{P:Nat->Prop}{o:Int}{t:Tx}{v:Value}{q:Qy}(h:QyV w P (qV o t v) q):v.oneCell'=true:=by
 obtain⟨u,zs,e,ho,_,_⟩:=h
 have:qA o t v=qA q.op q.tx u:=by simpa [qV] using e
 have e2:v=u:=by have:=congrArg (fun a=>a[2]?) this;simpa [qA] using this
 rw [e2]
 exact ZcU ho
theorem QyV.slice {w:World}{P:Nat->Prop}{x:Value}{q:Qy}(h:QyV w P x q):∃ va m c,x=qV q.op q.tx (.slice va m c):=by
 obtain⟨u,zs,e,ho,_,_⟩:=h
 obtain⟨a,c,e2,_⟩:=Za8 ho
 exact⟨a,_,c,by rw [e,e2]⟩
theorem ZaN {w:World}{base n:Nat}{v:Value}{xs:List Value}(h:w.ownsRow base 9 1 v n xs){k:Nat}(hk:v.ownBlock=some k):base<=k/\k<w.heap.size:=by
 rcases h.2 with⟨rfl,_⟩|⟨g,cap,cur,rfl,h2,h3,_⟩
 ·cases hk
 ·cases hk;exact⟨h2,(Array.getElem?_eq_some_iff.1 h3).1⟩
theorem ZaA {w w':World}{base n:Nat}{v:Value}{xs:List Value}(h:w.ownsRow base 9 1 v n xs)(hb:∀ k,v.ownBlock=some k->w'.heap[k]?=w.heap[k]?):w'.ownsRow base 9 1 v n xs:=by
 refine⟨h.1,?_⟩
 rcases h.2 with h1|⟨g,cap,cur,rfl,h2,h3,h4⟩
 ·exact .inl h1
 ·exact .inr ⟨g,cap,cur,rfl,h2,(hb g rfl).trans h3,h4⟩
theorem PaV.kept {w w':World}{P:Nat->Prop}{x:Value}{p:Pt}(h:PaV w P x p)(hb:∀ b,P b->b<w.heap.size->w'.heap[b]?=w.heap[b]?):PaV w' P x p:=by
 cases p with
 | told ts =>
  obtain⟨tv,e,o,p⟩:=h
  exact⟨tv,e,ZaA o (fun k hk=>hb k (p k hk) (ZaN o hk).2),p⟩
 | ask q =>
  obtain⟨lv,e,hq⟩:=h
  exact⟨lv,e,hq.kept hb⟩
theorem PaV.mono {w:World}{P P':Nat->Prop}{x:Value}{p:Pt}(h:PaV w P x p)(hp:∀ b,b<w.heap.size->P b->P' b):PaV w P' x p:=by
 cases p with
 | told ts =>
  obtain⟨tv,e,o,q⟩:=h
  exact⟨tv,e,o,fun b hb=>hp b (ZaN o hb).2 (q b hb)⟩
 | ask q =>
  obtain⟨lv,e,hq⟩:=h
  exact⟨lv,e,hq.mono hp⟩
theorem ret30 {w w1 w4:World}{g2:Nat}{P:Nat->Prop}{q:Qy}{xv:Value}(h4:w4.heap[g2]?=some (.cells (qA 0 [] nilS) 30 (0,0)))(hb:Below w.heap.size w w4)(hg:w.heap.size<=g2)(hq:QyV w4 P (qV q.op q.tx xv) q)(hP:¬ P g2) :
  QyV (w4.setRow g2 (qA q.op q.tx xv)) P (qV q.op q.tx xv) q/\Below w.heap.size w (w4.setRow g2 (qA q.op q.tx xv)) :=
 ⟨QyV.kept hq (fun b hb _=>setRow_other _ _ _ _ (fun e=>hP (e ▸ hb))),hb.trans ⟨rfl,rfl,rfl,by simp,fun k hk=>setRow_other _ _ _ _ (by omega)⟩⟩
set_option maxRecDepth 100000 in
theorem ZiU (p:Pt)(hB:PtB p)(P:Nat->Prop)(x:Value)(w:World)(hx:PaV w P x p)(hPw:∀ b,P b->b<w.heap.size) :
  Calls Tryz.prog 36 #[x] w fun e w'=>∃ z,e=.returned z/\QyV w' (fun b=>P b\/w.heap.size<=b) z p.asked/\Below w.heap.size w w':=by
 have H:=St.start Nope w
 cases p with
 | told ts =>
  obtain⟨tv,rfl,ho,hp⟩:=hx
  have hone:=Zeu ho
  have QO:=Zaa (fun (w':World) (hb:Below w.heap.size w w')=>Ze1 ts (hB ts rfl) tv w' (ZaA ho (fun k hk=>hb.block k (ZaN ho hk).2)))
  clear ho hp hB
  go_enter Tryz.func36,Tryz.ntmps36
  go_wp2_with (first|((with_reducible refine Zar 85 ?_);refine ZdN (b:=true) (tv:=tv) (o:=0) (t:=[]) (l:=nilS) H rfl ?_;clear H;intro g1 w1 H q1 q2)|((with_reducible refine Zae 30 ?_);refine Zbc H ?_;clear H;intro g2 w2 H q3 q4;have hb2:=H.below)|((with_reducible refine Zac 4 ?_);refine Za3 1 0 H (v:=.bool true) rfl rfl rfl ?_)|((with_reducible refine Zac 43 ?_);refine Zgt 1 1 H (v:=tv) rfl rfl rfl ?_)|(go_at_call 81;refine (QO.out _ hb2).mono ?_))
  rintro e w4 ⟨z,rfl,hq,B4⟩
  have hg2:=H.lti 0 rfl
  have H4:=H.call B4 (Nat.le_refl _)
  have h4g:=Zaa (H4.get 0 rfl)
  have h4b:=Zaa H4.below
  obtain⟨va,m,c,rfl⟩:=hq.slice
  have hqh:=Zaa hq
  clear H H4 hq QO
  go_wp2_with (first|((with_reducible refine Zab 30 ?_);refine ZaQ 30 (v:=qV (Zba ts).op (Zba ts).tx (.slice va m c)) rfl rfl (ZcB h4g.out rfl) ?_))
  refine bodyPost_ret (Zaf rfl _ _ _ _ rfl (ZaY (setRow_heap _ _ _ _ 30 (0,0) h4g.out))) rfl ?_
  obtain⟨r1,r2⟩:=ret30 (w1:=w) h4g.out h4b.out q3 hqh.out (fun h=>by omega)
  exact⟨_,rfl,r1.mono (fun b _ hb=>.inr (by have:=hb2.size;omega)),r2⟩
 | ask q =>
  obtain⟨lv,rfl,hq⟩:=hx
  have hone:=hq.one
  have hqh:=Zaa hq
  clear hq hB
  go_enter Tryz.func36,Tryz.ntmps36
  go_wp2_with (first|((with_reducible refine Zar 85 ?_);refine ZdN (b:=false) (tv:=nilS) (o:=q.op) (t:=q.tx) (l:=lv) H rfl ?_;clear H;intro g1 w1 H q1 q2)|((with_reducible refine Zae 30 ?_);refine Zbc H ?_;clear H;intro g2 w2 H q3 q4;have hb2:=H.below)|((with_reducible refine Zac 4 ?_);refine Za3 1 0 H (v:=.bool false) rfl rfl rfl ?_)|((with_reducible refine Zac 30 ?_);refine Zau 30 rfl (load30p (H.get 1 rfl)) ?_)|((with_reducible refine Zab 30 ?_);refine ZaQ 30 (v:=qV q.op q.tx lv) rfl rfl (ZcB (H.get 0 rfl) hone) ?_))
  refine bodyPost_ret (Zaf rfl _ _ _ _ rfl (ZaY (setRow_heap _ _ _ _ 30 (0,0) (H.get 0 rfl)))) rfl ?_
  obtain⟨r1,r2⟩:=ret30 (w1:=w) (H.get 0 rfl) hb2 q3 (hqh.out.kept (fun b hp hl=>hb2.block b hl)) (fun h=>by have:=hPw _ h;omega)
  exact⟨_,rfl,r1.mono (fun b _ hb=>.inl hb),r2⟩
end G
namespace G
open Go.RowKit Go.Shelf Go.Maps Go.WideMaps Go.Sort
attribute [local go_sem] Oper.semAt_some
section
variable {F:Fence}{n:Nat}{w w':World}{ops:Array Oper}{rest:List Oper}{a:Act}{Q:Exit->Act->World->Prop}{x y p:Operand}{ty ty2 ty3 ty4 ty5:TypeId}{pos pos2 pos3 pos4 pos5:String}{after after2 after3 after4 after5:Array Edge}
theorem ZkL {d0 d9 d1 d2:Nat}(h:wpListIn F n Tryz.prog ops Q (⟨some d0,.load 43 p,ty4,pos4,after4,none⟩::⟨some d9,.move x,ty5,pos5,after5,none⟩::⟨some d1,.buildSlice 43 1 #[(0,.tmp d9)],ty,pos,after,none⟩::⟨some d2,.call { callee:=.builtin .append,args:=#[.tmp d0,.tmp d1],argTypes:=#[43,43] },43,pos2,after2,none⟩::⟨none,.store 43 p (.tmp d2),ty3,pos3,after3,none⟩::rest) a w) :
  wpListIn F n Tryz.prog ops Q (⟨some d0,.load 43 p,ty4,pos4,after4,none⟩::⟨some d9,.move x,ty5,pos5,after5,none⟩::⟨some d1,.buildSlice 43 1 #[(0,.tmp d9)],ty,pos,after,none⟩::⟨some d2,.call { callee:=.builtin .append,args:=#[.tmp d0,.tmp d1],argTypes:=#[43,43] },43,pos2,after2,none⟩::⟨none,.store 43 p (.tmp d2),ty3,pos3,after3,none⟩::rest) a w:=h
theorem ZkM {d0 d9 d1 d2:Nat}(hF:∀ f,F.fn f){v:Value}{s:ByteArray}{g:Nat}{Fin:World->Prop}(h0:a.eval p=.pointer (some ⟨g,0,none⟩))(hl:(loadVar 43 ⟨g,0,none⟩).run Tryz.prog w=.ok v w)(hx:(a.put (some d0) v).eval x=.string s)(hx2:((a.put (some d0) v).put (some d9) (.string s)).eval (.tmp d9)=.string s)(hs:∀ u,(((a.put (some d0) v).put (some d9) (.string s)).put (some d1) u).eval (.tmp d0)=v)(ht:∀ u,(((a.put (some d0) v).put (some d9) (.string s)).put (some d1) u).eval (.tmp d1)=u)(hp:∀ u u2,((((a.put (some d0) v).put (some d9) (.string s)).put (some d1) u).put (some d2) u2).eval p=.pointer (some ⟨g,0,none⟩))(hv:∀ u u2,((((a.put (some d0) v).put (some d9) (.string s)).put (some d1) u).put (some d2) u2).eval (.tmp d2)=u2)
  (h:∃ v6 w6,(Builtin.append_ #[43,43] 43 #[v,.slice (some ⟨w.heap.size,0,none⟩) 1 1]).run Tryz.prog (w.alloc (.cells #[.string s] 9))=.ok v6 w6/\v6.oneCell'=true/\(storeVar 43 ⟨g,0,none⟩ v6).run Tryz.prog w6=.ok () (w6.setCell ⟨g,0,none⟩ v6)/\Fin (w6.setCell ⟨g,0,none⟩ v6))
  (k:∀ u v6 w7,Fin w7->wpListIn F n Tryz.prog ops Q rest ((((a.put (some d0) v).put (some d9) (.string s)).put (some d1) u).put (some d2) v6) w7) :
  wpListIn F n Tryz.prog ops Q (⟨some d0,.load 43 p,ty4,pos4,after4,none⟩::⟨some d9,.move x,ty5,pos5,after5,none⟩::⟨some d1,.buildSlice 43 1 #[(0,.tmp d9)],ty,pos,after,none⟩::⟨some d2,.call { callee:=.builtin .append,args:=#[.tmp d0,.tmp d1],argTypes:=#[43,43] },43,pos2,after2,none⟩::⟨none,.store 43 p (.tmp d2),ty3,pos3,after3,none⟩::rest) a w:=by
 obtain⟨v6,w6,r1,r2,r3,r4⟩:=h
 refine Zai 43 hF h0 hl ?_
 refine ZaF hF (fun c=>nofun) (w':=w) (v:=.string s) ?_ ?_
 ·unfold execOp
  simp only [hx,Sem.run_pure]
 refine ZaF hF (fun c=>nofun) (bs43 _ hx2 w) ?_
 refine ZaF hF (fun c=>nofun) (app43 (hs _) (ht _) r1) ?_
 refine Za4 hF (fun c=>nofun) (st43 (hp _ _) (hv _ _) r3) ?_
 exact k _ _ _ r4
end
theorem ZfE {fn:Func}{p q:Tmp}{t1 t2:TypeId}(h:fn.results=#[.cell p t1,.cell q t2])(tmps:Array Value)(w:World)(g1 g2:Nat)(x y:Value)
  (hp:tmps.getD p undef=.pointer (some ⟨g1,0,none⟩)) (hq:tmps.getD q undef=.pointer (some ⟨g2,0,none⟩)) (hl:(loadVar t1 ⟨g1,0,none⟩).run Tryz.prog w=.ok x w) (hl2:(loadVar t2 ⟨g2,0,none⟩).run Tryz.prog w=.ok y w) :
  (results fn tmps).run Tryz.prog w=.ok (.tuple #[x,y]) w:=by
 have hp':tmps[p]?.getD undef=.pointer (some ⟨g1,0,none⟩):=by simpa using hp
 have hq':tmps[q]?.getD undef=.pointer (some ⟨g2,0,none⟩):=by simpa using hq
 simp [results,h,hp',hq',asAddr,hl,hl2]
theorem bnd_long {M pr:List Tx}{x:Tx}(h:pr++[x] <+: dis [] M)(h2:32<x.length\/pr.length=32):bnd M=none:=by
 unfold bnd
 rw [if_neg]
 rintro⟨h3,h4⟩
 rcases h2 with h2|h2
 ·have:=h4 x ((Zdr M [] x).1 (h.subset (by simp))).1
  omega
 ·have:=h.length_le
  simp at this
  omega
theorem bnd_all {M:List Tx}(h:(dis [] M).length<=32)(h2:∀ t ∈ dis [] M,t.length<=32):bnd M=some (srt (dis [] M)):=by
 unfold bnd
 rw [if_pos ⟨h,fun t ht=>h2 t ((Zdr M [] t).2 ⟨ht,by simp⟩)⟩]
 rfl
theorem Zgu {w w':World}{row:Option Nat}{B g:Nat}{xs:Array Value}{t:TypeId}(h:w.heap[g]?=some (.cells xs t (0,0)))(hg:w.grownBy w' row)(hr:∀ r,row=some r->B<=r/\∃ o:Obj,w.heap[r]?=some o/\o.isCells=false):w'.heap[g]?=some (.cells xs t (0,0)):=(hg.block g (Array.getElem?_eq_some_iff.1 h).1 (fun e=>by
 obtain⟨_,o,ho,hc⟩:=hr g e.symm
 rw [h] at ho
 cases ho
 cases hc)).trans h
set_option maxRecDepth 100000 in
theorem ZfF (n:Nat)(hn:6<=n)(gf:Nat)(lb:Array Value)(M:List Tx)(hMx:∀ x ∈ M,x.length<=100000)(hMn:M.length<=1000000)(w:World)(eg:∀ args w,(callFunc gf args).run Tryz.prog w=.ok (.enter gf args) w)
  (hseq:∀ (X:Nat->Prop) (W:World) (n':Nat),1<=n'->Below w.heap.size w W->(∀ k,X k->w.heap.size<=k)->SeqB 0 Fence.wide n' Tryz.prog gf lb encT (fun _=>Kc X) (fun ys=>ys=M) (fun pre=>pre <+: M) (fun pre x=>pre++[x] <+: M) W) :
  CallsIn Fence.wide n Tryz.prog 182 #[.func (.func gf) #[] lb] w fun e w'=>∃ v b,e=.returned (.tuple #[v,.bool b])/\Below w.heap.size w w'/\((bnd M=none/\b=false/\v=nilS)\/∃ ts,bnd M=some ts/\b=true/\w'.ownsRow w.heap.size 9 1 v ts.length (ts.map encStr)):=by
 refine callsIn_of_wp_marks Tryz.func182 rfl trivial ?_ rfl
 simp only [Tryz.ntmps182,List.size_toArray,List.length_cons,List.length_nil,Nat.reduceAdd,Nat.reduceSub,Array.replicate_succ,Array.replicate_zero,List.push_toArray,List.append_toArray,List.nil_append,List.cons_append]
 replace hseq:=Zaa hseq
 gi_wp2
 obtain⟨w4,hw4⟩:∃ w4,w4=((w.alloc (.cells #[.slice none 0 0] 43)).alloc (.cells #[.bool false] 4)).alloc (.cells #[.slice none 0 0] 43):=⟨_,rfl⟩
 have H5:=(((St.start Nope w).alloc 43 #[.slice none 0 0]).alloc 4 #[.bool false]).alloc 43 #[.slice none 0 0]
 rw [<- hw4] at H5 ⊢
 have s4:Hid (w4.heap.size=w.heap.size+3):=by show _=_;rw [hw4];simp
 simp only [World.size_alloc] at H5
 obtain⟨g4,hg4⟩:∃ g4,g4=w.heap.size+1+1:=⟨_,rfl⟩
 obtain⟨g3,hg3⟩:∃ g3,g3=w.heap.size+1:=⟨_,rfl⟩
 simp only [<- hg4] at H5 ⊢
 simp only [<- hg3] at H5 ⊢
 obtain⟨g2,hg2⟩:∃ g2,g2=w.heap.size:=⟨_,rfl⟩
 have hgg:Hid (g2=w.heap.size/\g3=w.heap.size+1/\g4=w.heap.size+2):=⟨hg2,hg3,by omega⟩
 have H5':St Nope w w4 [(true,g4,43,#[.slice none 0 0]),(true,g3,4,#[.bool false]),(true,g2,43,#[.slice none 0 0])]:=by rw [hg2];exact H5
 rw [show (Value.pointer (some ⟨w.heap.size,0,none⟩))=.pointer (some ⟨g2,0,none⟩) by rw [hg2]]
 clear hw4 hg2 hg3 hg4 H5
 refine⟨trivial,fun h=>(by cases h),(ZeV _ _ _ w4 ⟨_,_,_,rfl⟩ ⟨_,_,_,rfl⟩).mono ?_⟩
 rintro e w5 ⟨rfl,e5⟩
 have B5:Below w4.heap.size w4 w5:=by rw [e5];exact ((Below.refl _ w4).alloc (Nat.le_refl _) _).alloc (by simp) _
 have s5:Hid (w5.heap.size=w.heap.size+5):=by show _=_;rw [e5];simp;have:=s4.out;omega
 have gs5:w5.heap[w4.heap.size]?=some (.cells #[.func (.func gf) #[] lb] 90 (0,0)):=by rw [e5];exact (Below.heap_alloc _ _ _ (by simp)).trans (heap_alloc_new w4 _)
 have gk5:w5.heap[w4.heap.size+1]?=some (.cells #[.func (.func 41) #[] #[]] 80 (0,0)):=by
  rw [e5]
  have:=heap_alloc_new (w4.alloc (.cells #[.func (.func gf) #[] lb] 90)) (.cells #[.func (.func 41) #[] #[]] 80)
  simpa using this
 have H7:=H5'.call B5 (Nat.le_refl _)
 clear H5' e5
 have bel7:=H7.below
 obtain⟨X0,hX0⟩:∃ X0:Nat->Prop,X0=fun k=>k=g4\/w5.heap.size<=k:=⟨_,rfl⟩
 have nX0:∀ k,X0 k->k=g4\/w5.heap.size<=k:=fun k h=>by rw [hX0] at h;exact h
 have hXw:∀ k,X0 k->w.heap.size<=k:=fun k h=>by
  have h1:=nX0 k h
  have h2:=hgg.out
  have h3:=s5.out
  omega
 have hst:=ZcT X0 (n - 1) (by omega) w4.heap.size (w4.heap.size+1) gf lb M (fun x hx=>by have:=hMx x hx;unfold maxLen;omega) (by unfold maxLen;omega) w5 eg gs5 gk5 (fun h=>by have h1:=nX0 _ h;have h2:=hgg.out;have h3:=s5.out;have h4:=s4.out;omega)
  (fun W hW=>hseq.out _ w5 (n - 1 - 1) (by omega) bel7 (fun k h=>hXw k h.1))
 have I0:GrI w g4 (w5.heap.size+5) [] w5:=⟨⟨_,H7.get 0 rfl,rfl,.inl ⟨rfl,rfl⟩⟩,bel7⟩
 have b20:=H7.get 2 rfl
 have b30:=H7.get 1 rfl
 replace hX0:=Zaa hX0
 replace nX0:=Zaa nX0
 clear B5 gs5 gk5 H7 hXw
 replace hst:=Zaa hst
 gi_wp2
 refine ZbG rfl (by omega) (gf:=88) (lb:=#[.pointer (some ⟨w4.heap.size,0,none⟩),.pointer (some ⟨w4.heap.size+1,0,none⟩)]) rfl (Zad 88) (enters_of Tryz.func88 (by kernel_rfl) rfl) hst.out
  (fun h k=>h.trans k) (fun Wd l o o' hl ho hc _=>⟨by simp [World.putObj],fun k cs t fr _ e=>(World.putObj_heap_other (fun h=>by rw [h,ho] at e;cases e;cases hc)).trans e⟩)
  (Below.refl _ w5) (fun _=>rfl)
  (fun pr Wd=>GrI w g4 (w5.heap.size+5) pr Wd/\Wd.heap[g2]?=some (.cells #[.slice none 0 0] 43 (0,0))/\Wd.heap[g3]?=some (.cells #[.bool false] 4 (0,0))/\(∀ y ∈ pr,y.length<=32)/\pr.length<=32)
  (fun cc pr Wd=>cc=.ret/\bnd M=none/\Wd.heap[g2]?=some (.cells #[.slice none 0 0] 43 (0,0))/\Wd.heap[g3]?=some (.cells #[.bool false] 4 (0,0))/\Below w.heap.size w Wd)
  (fun pr Wd Wd' row hs hg hr=>⟨hs.1.own (by have:=s5.out;omega) hg hr,Zgu hs.2.1 hg hr,Zgu hs.2.2.1 hg hr,hs.2.2.2⟩)
  (fun cc pr Wd Wd' row hs hg hr=>⟨hs.1,hs.2.1,Zgu hs.2.2.1 hg hr,Zgu hs.2.2.2.1 hg hr,hs.2.2.2.2.grown hg hs.2.2.2.2.size (fun k e=>by have:=(hr k e).1;have:=s5.out;omega)⟩) ⟨I0,b20,b30,fun y hy=>(List.not_mem_nil hy).elim,Nat.zero_le _⟩
  (fun x a' Wd=>∃ (u0 u1 u6 u7 u8 u9 u10 u11 u12 u13 u14 u15 u16 u17 u18 u19 u20 u21 u22 u23:Value),a'={ tmps:=#[u0,u1,.pointer (some ⟨g2,0,none⟩),.pointer (some ⟨g3,0,none⟩),.pointer (some ⟨g4,0,none⟩),encStr x,u6,u7,u8,u9,u10,u11,u12,u13,u14,u15,u16,u17,u18,u19,u20,u21,u22,u23],defers:=[] })
  (fun x a' _ Wd Wd' row hs hg' hr=>hs) ?assign ?body ?done ?stop
 case assign =>
  intro l2 pr x Wd K hi hK
  simp only [encT,List.zip_toArray,List.zip_cons_cons,List.zip_nil_left,List.zip_nil_right,List.foldl_toArray,List.foldl_cons,List.foldl_nil,List.setIfInBounds_toArray,List.set_cons_zero,List.set_cons_succ]
  replace hK:=Zaa hK
  replace hi:=Zaa hi
  gi_wp2
  exact hK.out _ Wd ⟨Nat.le_refl _,fun _ _ _ h _=>h⟩ (Kc.refl _ _) hi.out ⟨_,_,_,_,_,_,_,_,_,_,_,_,_,_,_,_,_,_,_,_,rfl⟩
 case body =>
  rintro l2 pr x a' Wd hl ⟨r,hr⟩ ⟨hI,b2,b3,hy32,hp32⟩ ⟨u0,u1,u6,u7,u8,u9,u10,u11,u12,u13,u14,u15,u16,u17,u18,u19,u20,u21,u22,u23,rfl⟩ hY hsz
  obtain⟨v,hv,ho⟩:=hI.row
  obtain⟨va,vc,rfl⟩:∃ va vc,v=.slice va pr.length vc:=by
   rcases ho.2 with⟨rfl,h⟩|⟨g,cap,cur,rfl,_⟩
   ·exact⟨_,_,by rw [h]⟩
   ·exact⟨_,_,rfl⟩
  have hxM:x ∈ M:=((Zdr M [] x).1 (hY.subset (by simp))).1
  have hxl:=hMx x hxM
  have hps:=Zaa (GrI.push hv ho hI.bel (by have:=hgg.out;have:=s5.out;omega) (by have:=hgg.out;omega) (by omega) (by omega) x Wd (Below.refl _ Wd))
  have hxs:(⟨x.toArray⟩:ByteArray).size=x.length:=by simp [ByteArray.size]
  have c4:=Zal hv 0 (v:=.slice va pr.length vc) rfl
  replace hr:=Zaa hr
  have hIH:=Zaa hI
  have hvH:=Zaa hv
  have hYH:=Zaa hY
  have b2h:=Zaa b2
  have b3h:=Zaa b3
  have hyh:=Zaa hy32
  clear hI hY ho hv b2 b3 hy32
  obtain⟨S,hS⟩:∃ S:ByteArray,S=⟨x.toArray⟩:=⟨_,rfl⟩
  have exs:encStr x=.string S:=by rw [hS]
  rw [exs]
  rw [<- hS] at hps hxs
  replace hS:=Zaa hS
  replace exs:=Zaa exs
  by_cases hlong:32<x.length\/pr.length=32
  ·have hnone:=Zaa (bnd_long hYH.out hlong)
   have stH:St (fun k=>k=g2\/k=g3) Wd Wd [(true,g2,43,#[.slice none 0 0]),(true,g3,4,#[.bool false])]:=by
    refine⟨But.refl _ _,fun y hy=>?_,fun y hy _ _=>?_,?_⟩
    ·simp only [List.mem_cons,List.not_mem_nil,or_false] at hy
     rcases hy with rfl|rfl
     ·exact b2h.out
     ·exact b3h.out
    ·simp only [List.mem_cons,List.not_mem_nil,or_false] at hy
     rcases hy with rfl|rfl
     ·exact .inl rfl
     ·exact .inr rfl
    ·have h:=hgg.out
     simp <;> omega
   have fin:Hid (∀ w9,St (fun k=>k=g2\/k=g3) Wd w9 [(true,g2,43,#[.slice none 0 0]),(true,g3,4,#[.bool false])]->KeepsFrom w5.heap.size Wd w9/\bnd M=none/\w9.heap[g2]?=some (.cells #[.slice none 0 0] 43 (0,0))/\w9.heap[g3]?=some (.cells #[.bool false] 4 (0,0))/\Below w.heap.size w w9):=fun w9 H9=>by
    have h:=hgg.out
    have h5:=s5.out
    exact⟨⟨H9.but.size,fun k o hk hko _=>(H9.but.block k (Array.getElem?_eq_some_iff.1 hko).1 (fun e=>by omega)).trans hko⟩,hnone.out,H9.get 0 rfl,H9.get 1 rfl,hIH.out.bel.trans (H9.but.below hIH.out.bel.size (fun k e=>by omega))⟩
   by_cases hl2:32<x.length
   ·have i1:(32:Int)<(S.size:Int):=by omega
    clear hlong
    gi_wp2_with (first|((with_reducible refine Zay 43 ?_);refine Zdb 0 43 (v:=nilS) (Zan l2) stH rfl rfl rfl one43 rfl ?_;intro w8 s8 H8)|((with_reducible refine Zay 4 ?_);refine Zdb 1 4 (v:=.bool false) (Zan l2) H8 rfl rfl rfl one4 rfl ?_;intro w9 s9 H9))
    exact⟨(fin.out w9 H9).1,rfl,(fin.out w9 H9).2⟩
   ·have i1:¬ (32:Int)<(S.size:Int):=by omega
    have hpl:pr.length=32:=by omega
    rw [hpl] at c4
    clear hlong
    replace hpl:=Zaa hpl
    gi_wp2_with (first|((with_reducible refine Zay 43 ?_);refine Zdb 0 43 (v:=nilS) (Zan l2) stH rfl rfl rfl one43 rfl ?_;intro w8 s8 H8)|((with_reducible refine Zay 4 ?_);refine Zdb 1 4 (v:=.bool false) (Zan l2) H8 rfl rfl rfl one4 rfl ?_;intro w9 s9 H9))
    exact⟨(fin.out w9 H9).1,rfl,(fin.out w9 H9).2⟩
  ·have i1:¬ (32:Int)<(S.size:Int):=by omega
   have i2:((pr.length:Int) == 32)=false:=by simpa using (by omega:¬ (pr.length:Int)=32)
   have hp31:pr.length+1<=32:=by omega
   have hx32:x.length<=32:=by omega
   clear hlong
   gi_wp2_with (first|((with_reducible refine ZkL ?_);refine ZkM (Zan l2) (v:=.slice va pr.length vc) (Fin:=fun W'=>GrI w g4 (w5.heap.size+5) (pr++[x]) W'/\But (fun k=>k=g4\/w5.heap.size+5<=k/\∃ cur,Wd.heap[k]?=some (.cells cur 9 (0,0))) Wd W') rfl (ZmQ c4) rfl rfl (fun _=>rfl) (fun _=>rfl) (fun _ _=>rfl) (fun _ _=>rfl) hps.out ?_;intro u v6 w7 hF;replace hF:=Zaa hF))
   obtain⟨hg,hb⟩:=hF.out
   have hgo:=hgg.out
   have h5o:=s5.out
   refine⟨⟨hb.size,fun k o hk hko hcs=>(hb.block k (Array.getElem?_eq_some_iff.1 hko).1 (fun h=>by
    rcases h with h|⟨_,cur,h⟩
    ·omega
    ·rw [hko] at h;cases h;cases hcs)).trans hko⟩,⟨hb.size,fun k cs t fr hX e=>(hb.block k (Array.getElem?_eq_some_iff.1 e).1 (fun h=>hX (by
    rw [hX0.out]
    rcases h with h|⟨h,_⟩
    ·exact⟨.inl h,by omega,by omega⟩
    ·exact⟨.inr (by omega),by omega,by omega⟩))).trans e⟩,hg,(hb.block g2 (Array.getElem?_eq_some_iff.1 b2h.out).1 (fun h=>by rcases h with h|⟨h,_⟩ <;> omega)).trans b2h.out,(hb.block g3 (Array.getElem?_eq_some_iff.1 b3h.out).1 (fun h=>by rcases h with h|⟨h,_⟩ <;> omega)).trans b3h.out,fun y hy=>by
    rcases List.mem_append.1 hy with hy|hy
    ·exact hyh.out y hy
    ·rw [List.mem_singleton.1 hy];exact hx32,by rw [List.length_append];exact hp31⟩
 case done =>
  rintro D xs Wd hD hS ⟨hI,hb2,hb3,hy32,hp32⟩ hK
  rw [hS] at hI hy32 hp32
  have hsome:=bnd_all hp32 hy32
  obtain⟨v,hv,ho⟩:=hI.row
  have hsrt:=Zaa (ZjO ho (by omega))
  have c6:=Zal hv 0 (v:=v) rfl
  have hvb:∀ k,v.ownBlock=some k->w5.heap.size+5<=k/\∃ cur,Wd.heap[k]?=some (.cells cur 9 (0,0)):=fun k e=>by
   rcases ho.2 with⟨rfl,_⟩|⟨g,cap,cur,rfl,q1,q2,_⟩
   ·cases e
   ·cases e;exact⟨q1,cur,q2⟩
  have hv1:=Zeu ho
  replace hsome:=Zaa hsome
  replace hv:=Zaa hv
  replace ho:=Zaa ho
  replace hI:=Zaa hI
  replace hK:=Zaa hK
  replace hvb:=Zaa hvb
  replace hb2:=Zaa hb2
  replace hb3:=Zaa hb3
  clear hy32 hp32 hst
  gi_wp2_with (first|((with_reducible refine Zah 43 ?_);refine Zai 43 Zad rfl (ZmQ c6) ?_))
  refine⟨trivial,fun h=>(by cases h),(callsIn_wide.2 hsrt.out).mono ?_⟩
  rintro e W7 ⟨rfl,ho7,hg7⟩
  have keep7:∀ (g:Nat) (xs:Array Value) (t:TypeId),g<w5.heap.size->Wd.heap[g]?=some (.cells xs t (0,0))->W7.heap[g]?=some (.cells xs t (0,0)):=fun g xs t hg e=>(hg7.block _ (Array.getElem?_eq_some_iff.1 e).1 (fun h=>by have:=(hvb.out _ h.symm).1;omega)).trans e
  have hDl:=(Array.getElem?_eq_some_iff.1 hK.out).1
  have hgo:=hgg.out
  have h5o:=s5.out
  have hv7:=keep7 _ _ _ (by omega) hv.out
  have h27:=keep7 _ _ _ (by omega) hb2.out
  have h37:=keep7 _ _ _ (by omega) hb3.out
  have hK7:W7.heap[D]?=some (.deferred (some [])):=(hg7.block _ hDl (fun e=>by
   obtain⟨_,cur,hc⟩:=hvb.out _ e.symm
   rw [hK.out] at hc
   cases hc)).trans hK.out
  have c7:=Zal hv7 0 (v:=v) rfl
  have bel7:Below w.heap.size w W7:=hI.out.bel.grown hg7 hI.out.bel.size (fun k e=>by have:=(hvb.out _ e).1;omega)
  have stH:St (fun k=>k=g2\/k=g3) W7 W7 [(true,g2,43,#[.slice none 0 0]),(true,g3,4,#[.bool false])]:=by
   refine⟨But.refl _ _,fun y hy=>?_,fun y hy _ _=>?_,?_⟩
   ·simp only [List.mem_cons,List.not_mem_nil,or_false] at hy
    rcases hy with rfl|rfl
    ·exact h27
    ·exact h37
   ·simp only [List.mem_cons,List.not_mem_nil,or_false] at hy
    rcases hy with rfl|rfl
    ·exact .inl rfl
    ·exact .inr rfl
   ·simp <;> omega
  replace hv7:=Zaa hv7
  replace hK7:=Zaa hK7
  replace ho7:=Zaa ho7
  replace bel7:=Zaa bel7
  replace hgo:=Zaa hgo
  replace h5o:=Zaa h5o
  clear hg7 keep7 h27 h37 hDl
  gi_wp2_with (first|((with_reducible refine Zah 43 ?_);refine Zai 43 Zad rfl (ZmQ c7) ?_)|((with_reducible refine Zay 43 ?_);refine Zdb 0 43 (v:=v) Zad stH rfl rfl rfl one43 hv1 ?_;intro w8 s8 H8)|((with_reducible refine Zay 4 ?_);refine Zdb 1 4 (v:=.bool true) Zad H8 rfl rfl rfl one4 rfl ?_;intro w9 s9 H9))
  have hgo2:=hgo.out
  have h5o2:=h5o.out
  have hK9:w9.heap[D]?=some (.deferred (some [])):=(H9.but.block D (Array.getElem?_eq_some_iff.1 hK7.out).1 (fun e=>by omega)).trans hK7.out
  have b29:=H9.get 0 rfl
  have b39:=H9.get 1 rfl
  have bel9:Below w.heap.size w w9:=bel7.out.trans (H9.but.below bel7.out.size (fun k e=>by omega))
  refine⟨by simp,.inl ⟨_,_,rfl,run_takeDeferred hK9,?_⟩⟩
  have B9:=grownBy_putObj' w9 D (.deferred none)
  have h9:∀ (g:Nat) (xs:Array Value) (t:TypeId),w9.heap[g]?=some (.cells xs t (0,0))->(w9.putObj D (.deferred none)).heap[g]?=some (.cells xs t (0,0)):=fun g xs t e=>(B9.block g (Array.getElem?_eq_some_iff.1 e).1 (fun h=>by cases h;rw [hK9] at e;cases e)).trans e
  refine⟨_,ZfE rfl _ _ _ _ _ _ rfl rfl (ZmQ (Zal (h9 _ _ _ b29) 0 rfl)) (ld4 (Zal (h9 _ _ _ b39) 0 rfl)),_,_,rfl,bel9.grown B9 bel9.size (fun k e=>by cases e;omega),.inr ⟨_,hsome.out,rfl,?_⟩⟩
  refine⟨ho7.out.1,?_⟩
  rcases ho7.out.2 with h|⟨g,cap,cur,q0,q1,q2,q3⟩
  ·exact .inl h
  ·exact .inr ⟨g,cap,cur,q0,by omega,h9 _ _ _ ((H9.but.block g (Array.getElem?_eq_some_iff.1 q2).1 (fun e=>by omega)).trans q2),q3⟩
 case stop =>
  rintro D cc pr Wd hD hS ⟨rfl,h1,h2,h3,hb⟩ hK
  have h1h:=Zaa h1
  have h2h:=Zaa h2
  have h3h:=Zaa h3
  have hbh:=Zaa hb
  have hKh:=Zaa hK
  clear h1 h2 h3 hb hK hst
  gi_wp2
  refine⟨by simp,.inl ⟨_,_,rfl,run_takeDeferred hKh.out,?_⟩⟩
  have B9:=grownBy_putObj' Wd D (.deferred none)
  have h9:∀ (g:Nat) (xs:Array Value) (t:TypeId),Wd.heap[g]?=some (.cells xs t (0,0))->(Wd.putObj D (.deferred none)).heap[g]?=some (.cells xs t (0,0)):=fun g xs t e=>(B9.block g (Array.getElem?_eq_some_iff.1 e).1 (fun h=>by cases h;rw [hKh.out] at e;cases e)).trans e
  refine⟨_,ZfE rfl _ _ _ _ _ _ rfl rfl (ZmQ (Zal (h9 _ _ _ h2h.out) 0 rfl)) (ld4 (Zal (h9 _ _ _ h3h.out) 0 rfl)),_,_,rfl,hbh.out.grown B9 hbh.out.size (fun k e=>by cases e;have:=s5.out;omega),.inl ⟨h1h.out,rfl,rfl⟩⟩
end G
end Go.Proofs.YtnffbmipllhjdaaGreatDoor
