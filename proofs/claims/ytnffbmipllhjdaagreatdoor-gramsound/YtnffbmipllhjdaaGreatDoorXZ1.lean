/- GramSound, part 1. -/
import Derived.WalkKit
import Derived.WalkLawsBesides
import Derived.Laws.BitsAllLaws
import Derived.Laws.Tables
import Derived.Laws.Rows
import Derived.Laws.ResultCell
import Derived.Laws.OwnMore
import Derived.BigQuiet
import Derived.Deep.RegionHeld3
import Derived.Lib.TrailingZeros
import Derived.Laws.Bits128
import Derived.Test.YtnffbmipllhjdaaGreatDoorChecked
import Derived.ProofKit
import Derived.OpenShut
import Derived.LaidMore
import Derived.Lib.LaidTab
import Derived.Stop.LaidErr
import Derived.Stop.Joined
import Derived.Test.YtnffbmipllhjdaaGreatDoorRows
set_option linter.all false
set_option maxHeartbeats 8000000
namespace Go.Proofs.YtnffbmipllhjdaaGreatDoor
theorem PuA {α : Type} : (∀ (xs : List α) (i : Nat) (a : α), xs.toArray.setIfInBounds i a = (xs.set i a).toArray) ∧ (∀ (x a : α) (l : List α), (x :: l).set 0 a = a :: l) ∧ ∀ (x a : α) (l : List α) (n : Nat), (x :: l).set (n + 1) a = x :: l.set n a := ⟨by simp, fun _ _ _ => rfl, fun _ _ _ _ => rfl⟩
end Go.Proofs.YtnffbmipllhjdaaGreatDoor
namespace Go.Proofs.YtnffbmipllhjdaaGreatDoor
section
open Go.RowKit
theorem Zaa {p:Prop}(h:p):Hid p:=h
theorem w64 (n:Int)(h:-9223372036854775808<=n/\n<=9223372036854775807):wrap64 n=n:=by unfold wrap64;omega
theorem Zav (b off j:Nat):(⟨b,off,none⟩:Addr).add j=⟨b,off+j,none⟩:=by unfold Addr.add;split <;> simp_all
structure But (S:Nat->Prop) (w w':World):Prop where
 os:w'.os=w.os
 tape:w'.tape=w.tape
 output:w'.output=w.output
 size:w.heap.size<=w'.heap.size
 block:∀ k,k<w.heap.size->¬ S k->w'.heap[k]?=w.heap[k]?
theorem But.refl (S:Nat->Prop)(w:World):But S w w:=⟨rfl,rfl,rfl,Nat.le_refl _,fun _ _ _=>rfl⟩
theorem But.trans {S T:Nat->Prop}{a b c:World}(h:But S a b)(k:But T b c)(hT:∀ i,i<a.heap.size->T i->S i):But S a c :=
 ⟨k.os.trans h.os,k.tape.trans h.tape,k.output.trans h.output,Nat.le_trans h.size k.size,fun i hi hn=>(k.block i (Nat.lt_of_lt_of_le hi h.size) (fun t=>hn (hT i hi t))).trans (h.block i hi hn)⟩
theorem But.mono {S T:Nat->Prop}{w w':World}(h:But S w w')(hT:∀ k,S k->T k):But T w w':=⟨h.os,h.tape,h.output,h.size,fun k hk hn=>h.block k hk (fun s=>hn (hT k s))⟩
theorem But.drewN {S:Nat->Prop}{a w:World}(h:But S a w)(n:Nat):But S a (w.drewN n):=⟨h.os,h.tape,h.output,h.size,h.block⟩
theorem But.drew {S:Nat->Prop}{a w:World}(h:But S a w):But S a w.drew:=⟨h.os,h.tape,h.output,h.size,h.block⟩
theorem But.alloc {S:Nat->Prop}{a w:World}(h:But S a w)(o:Obj):But S a (w.alloc o) :=
 h.trans (T:=fun _=>False) ⟨rfl,rfl,rfl,by simp,fun k hk _=>Below.heap_alloc w o k hk⟩ (fun _ _ h=>h.elim)
theorem But.setRow {S:Nat->Prop}{a w:World}(h:But S a w){g:Nat}(hp:g<a.heap.size->S g)(cs:Array Value):But S a (w.setRow g cs) :=
 h.trans (T:=fun k=>k=g) ⟨rfl,rfl,rfl,by simp,fun k hk hn=>setRow_other w g k cs hn⟩ (fun i hi e=>by subst e;exact hp hi)
theorem But.grown {S:Nat->Prop}{a w w':World}{row:Option Nat}(h:But S a w)(hg:w.grownBy w' row)(hr:∀ k,row=some k->k<a.heap.size->S k):But S a w' :=
 h.trans (T:=fun k=>row=some k) ⟨hg.os,hg.tape,hg.output,hg.size,fun k hk hn=>hg.block k hk (fun e=>hn e.symm)⟩ (fun i hi e=>hr i e hi)
theorem But.below {S:Nat->Prop}{B:Nat}{w w':World}(h:But S w w')(hB:B<=w.heap.size)(hS:∀ k,S k->B<=k):Below B w w' :=
 ⟨h.os,h.tape,h.output,h.size,fun k hk=>h.block k (by omega) (fun s=>by have:=hS k s;omega)⟩
theorem Zbd {B:Nat}{w w':World}(h:Below B w w')(S:Nat->Prop)(hS:∀ k,k<w.heap.size->B<=k->S k):But S w w' :=
 ⟨h.os,h.tape,h.output,h.size,fun k hk hn=>h.block k (by rcases Nat.lt_or_ge k B with h|h;exact h;exact (hn (hS k hk h)).elim)⟩
abbrev Ent:=Bool × Nat × TypeId × Array Value
structure St (S:Nat->Prop) (w0 w:World) (L:List Ent):Prop where
 but:But S w0 w
 all:∀ x ∈ L,w.heap[x.2.1]?=some (.cells x.2.2.2 x.2.2.1 (0,0))
 ok:∀ x ∈ L,x.1=true->x.2.1<w0.heap.size->S x.2.1
 nd:(L.map (·.2.1)).Nodup
abbrev Nope:Nat->Prop:=fun _=>False
section
variable {S:Nat->Prop}{w0 w w':World}{L:List Ent}
theorem St.start (S:Nat->Prop)(w:World):St S w w []:=⟨But.refl _ _,fun x hx=>(List.not_mem_nil hx).elim,fun x hx=>(List.not_mem_nil hx).elim,List.nodup_nil⟩
theorem St.lt (H:St S w0 w L){x:Ent}(hx:x ∈ L):x.2.1<w.heap.size:=(Array.getElem?_eq_some_iff.1 (H.all x hx)).1
theorem St.get (H:St S w0 w L)(i:Nat){b:Bool}{g:Nat}{t:TypeId}{xs:Array Value}(h:L[i]?=some (b,g,t,xs)):w.heap[g]?=some (.cells xs t (0,0)):=H.all _ (List.mem_of_getElem? h)
theorem St.lti (H:St S w0 w L)(i:Nat){b:Bool}{g:Nat}{t:TypeId}{xs:Array Value}(h:L[i]?=some (b,g,t,xs)):g<w.heap.size:=H.lt (List.mem_of_getElem? h)
theorem St.fz (H:St S w0 w L)(i j:Nat){b:Bool}{g:Nat}{t:TypeId}{xs:Array Value}(h:L[i]?=some (b,g,t,xs)):w.frozen? ⟨g,j,none⟩=false:=frozen_of_row w g j _ t (H.get i h)
theorem St.cell (H:St S w0 w L)(i j:Nat){b:Bool}{g:Nat}{t:TypeId}{xs:Array Value}(h:L[i]?=some (b,g,t,xs)){v:Value}(hv:xs[j]?=some v):w.cell? ⟨g,j,none⟩=some v:=by
 rw [cell_of_row w g j _ t (0,0) (H.get i h)];exact hv
theorem St.alloc (H:St S w0 w L)(t:TypeId)(xs:Array Value):St S w0 (w.alloc (.cells xs t)) ((true,w.heap.size,t,xs)::L):=by
 refine⟨H.but.alloc _,fun x hx=>?_,fun x hx=>?_,?_⟩
 ·rcases List.mem_cons.1 hx with rfl|hx
  ·exact heap_alloc_new w _
  ·rw [Below.heap_alloc _ _ _ (H.lt hx)];exact H.all x hx
 ·rcases List.mem_cons.1 hx with rfl|hx
  ·intro _ h;have:=H.but.size;simp only at h;omega
  ·exact H.ok x hx
 ·rw [List.map_cons,List.nodup_cons]
  refine⟨fun h=>?_,H.nd⟩
  obtain⟨x,hx,e⟩:=List.mem_map.1 h
  have:=H.lt hx
  simp only at e
  omega
theorem St.call (H:St S w0 w L){B:Nat}(hb:Below B w w')(hB:w.heap.size<=B):St S w0 w' L :=
 ⟨H.but.trans (T:=fun _=>False) ⟨hb.os,hb.tape,hb.output,hb.size,fun k hk _=>hb.block k (by omega)⟩ (fun _ _ h=>h.elim),fun x hx=>by rw [hb.block _ (by have:=H.lt hx;omega)];exact H.all x hx,H.ok,H.nd⟩
theorem St.drew (H:St S w0 w L):St S w0 w.drew L:=⟨H.but.drew,H.all,H.ok,H.nd⟩
theorem St.drewN (H:St S w0 w L)(n:Nat):St S w0 (w.drewN n) L:=⟨H.but.drewN n,H.all,H.ok,H.nd⟩
theorem St.sub (H:St S w0 w L){M:List Ent}(h:M.Sublist L):St S w0 w M :=
 ⟨H.but,fun x hx=>H.all x (h.subset hx),fun x hx=>H.ok x (h.subset hx),(h.map _).nodup H.nd⟩
theorem St.tail {x:Ent}(H:St S w0 w (x::L)):St S w0 w L:=H.sub (List.sublist_cons_self _ _)
theorem St.below (H:St Nope w0 w L):Below w0.heap.size w0 w:=H.but.below (Nat.le_refl _) (fun _ h=>h.elim)
theorem Zk9 {α:Type}{l:List α}(h:l.Nodup){i j:Nat}{x:α}(hi:l[i]?=some x)(hj:l[j]?=some x):i=j:=by
 exact (List.getElem?_inj (List.getElem?_eq_some_iff.1 hi).1 h).1 (hi.trans hj.symm)
theorem St.setRow (H:St S w0 w L)(i:Nat){g:Nat}{t:TypeId}{xs:Array Value}(h:L[i]?=some (true,g,t,xs))(ys:Array Value):St S w0 (w.setRow g ys) (L.set i (true,g,t,ys)):=by
 have hm:(L.set i (true,g,t,ys)).map (·.2.1)=L.map (·.2.1):=by
  apply List.ext_getElem?
  intro j
  simp only [List.getElem?_map,List.getElem?_set]
  split
  ·rename_i e;subst e;split
   ·rw [h];rfl
   ·rename_i hl;rw [List.getElem?_eq_none (by omega)]
  ·rfl
 have hne:∀ x ∈ L.set i (true,g,t,ys),x=(true,g,t,ys)\/(x ∈ L/\x.2.1≠g):=fun x hx=>by
  obtain⟨j,hj⟩:=List.mem_iff_getElem?.1 hx
  rw [List.getElem?_set] at hj
  split at hj
  ·split at hj
   ·exact .inl (Option.some.inj hj).symm
   ·cases hj
  ·rename_i hij
   refine .inr ⟨List.mem_of_getElem? hj,fun e=>hij ?_⟩
   refine Zk9 H.nd (x:=g) ?_ ?_
   ·rw [List.getElem?_map,h];rfl
   ·rw [List.getElem?_map,hj,<- e];rfl
 refine⟨H.but.setRow (H.ok _ (List.mem_of_getElem? h) rfl) _,fun x hx=>?_,fun x hx=>?_,by rw [hm];exact H.nd⟩
 ·rcases hne x hx with rfl|⟨hx,hn⟩
  ·exact setRow_heap w g _ ys t (0,0) (H.get i h)
  ·rw [setRow_other w g _ ys hn];exact H.all x hx
 ·rcases hne x hx with rfl|⟨hx,hn⟩
  ·exact H.ok (true,g,t,xs) (List.mem_of_getElem? h)
  ·exact H.ok x hx
theorem St.callS (H:St S w0 w L){T:Nat->Prop}(hb:But T w w')(hT:∀ i,i<w0.heap.size->T i->S i){M:List Ent}(hM:M.map (fun x=>(x.1,x.2.1))=L.map (fun x=>(x.1,x.2.1)))(hn:∀ x ∈ M,x ∈ L/\¬ T x.2.1\/w'.heap[x.2.1]?=some (.cells x.2.2.2 x.2.2.1 (0,0))):St S w0 w' M:=by
 have hm:M.map (·.2.1)=L.map (·.2.1):=by
  have:=congrArg (List.map Prod.snd) hM
  simpa [List.map_map,Function.comp_def] using this
 refine⟨H.but.trans hb hT,fun x hx=>?_,fun x hx hr hl=>?_,by rw [hm];exact H.nd⟩
 ·rcases hn x hx with⟨h1,h2⟩|h1
  ·rw [hb.block _ (H.lt h1) h2];exact H.all x h1
  ·exact h1
 ·have:(x.1,x.2.1) ∈ L.map (fun x=>(x.1,x.2.1)):=by rw [<- hM];exact List.mem_map.2 ⟨x,hx,rfl⟩
  obtain⟨y,hy,e⟩:=List.mem_map.1 this
  simp only [Prod.mk.injEq] at e
  rw [<- e.2]
  exact H.ok y hy (by rw [e.1];exact hr) (by rw [e.2];exact hl)
end
section
variable {S:Nat->Prop}{w0 w:World}{L:List Ent}{ops:Array Oper}{rest:List Oper}{a:Act}{Q:Exit->Act->World->Prop}{dst:Option Nat}{x y:Operand}{ty t:TypeId}{pos:String}{after:Array Edge}
theorem Zc1 (t:TypeId)(zs:Array Value)(H:St S w0 w L)(hz:∀ w,(execOp a.eval ⟨dst,.alloc t,ty,pos,after,none⟩).run Tryz.prog w=.ok (.value (.pointer (some ⟨w.heap.size,0,none⟩))) (w.alloc (.cells zs t)))
  (h:∀ g w',St S w0 w' ((true,g,t,zs)::L)->w0.heap.size<=g->w.heap.size<=g->wpList Tryz.prog ops Q rest (a.put dst (.pointer (some ⟨g,0,none⟩))) w'):wpList Tryz.prog ops Q (⟨dst,.alloc t,ty,pos,after,none⟩::rest) a w:=by
 refine wpList_plain rfl fun K hK=>?_
 unfold Oper.wp
 rw [hz,Oper.upon_value]
 exact hK _ _ (h _ _ (H.alloc t zs) H.but.size (Nat.le_refl _))
theorem Zc2 (i:Nat)(t:TypeId)(H:St S w0 w L){g:Nat}{ys xs:Array Value}(h:L[i]?=some (true,g,t,xs))(hx:a.eval x=.pointer (some ⟨g,0,none⟩))(hy:a.eval y=.agg ys)(hi:(Tryz.prog.info? t).map (·.size)=some ys.size)(hs:xs.size=ys.size)(h1:ys.all (·.oneCell')=true)
  (k:∀ w',St S w0 w' (L.set i (true,g,t,ys))->wpList Tryz.prog ops Q rest a w'):wpList Tryz.prog ops Q (⟨none,.store t x y,ty,pos,after,none⟩::rest) a w :=
 wpList_store_row rfl t x y rfl g _ hx hy t _ (H.get i h) hi hs h1 (k _ (H.setRow i h ys))
theorem Zbt (i j:Nat)(ty':TypeId)(H:St S w0 w L){t:TypeId}{g:Nat}{v:Value}{xs:Array Value}(h:L[i]?=some (true,g,t,xs))(hx:a.eval x=.pointer (some ⟨g,j,none⟩))(hy:a.eval y=v)(hj:j<xs.size)(hi:∀ w,(sizeOf ty').run Tryz.prog w=.ok 1 w)(h1:v.oneCell'=true)
  (k:∀ w',St S w0 w' (L.set i (true,g,t,xs.setIfInBounds j v))->wpList Tryz.prog ops Q rest a w'):wpList Tryz.prog ops Q (⟨none,.store ty' x y,ty,pos,after,none⟩::rest) a w:=by
 refine wpList_plain rfl fun K hK=>?_
 have h2:=H.setRow i h (xs.setIfInBounds j v)
 rw [<- setCell_eq_setRow w g j xs t (0,0) v (H.get i h)] at h2
 have hc:w.cell? ⟨g,j,none⟩=some xs[j]:=H.cell i j h (Array.getElem?_eq_getElem hj)
 have hf:=H.fz i j h
 have hcs:v.cells=#[v]:=by cases v <;> first|rfl|cases h1
 have hst:(storeVar ty' ⟨g,j,none⟩ v).run Tryz.prog w=.ok () (w.setCell ⟨g,j,none⟩ v):=by
  have e:(storeCells ⟨g,j,none⟩ [v]).run Tryz.prog w=.ok () (w.setCell ⟨g,j,none⟩ v):=by simp [storeCells,go_sem,run_store Tryz.prog w _ v _ h1,stored,hc,hf]
  unfold storeVar
  simp only [Sem.run_bind,hi,Result.andThen_ok,hcs]
  simpa using e
 unfold Oper.wp execOp
 simp only [hx,hy,Instr.storeAt,Instr.sureAddr,Sem.run_bind,Sem.run_pure,Result.andThen_ok,hst]
 exact hK _ _ (k _ h2)
theorem Zab (t:TypeId)(h:wpList Tryz.prog ops Q (⟨dst,.store t x y,ty,pos,after,none⟩::rest) a w):wpList Tryz.prog ops Q (⟨dst,.store t x y,ty,pos,after,none⟩::rest) a w:=h
theorem Zae (t:TypeId)(h:wpList Tryz.prog ops Q (⟨dst,.alloc t,ty,pos,after,none⟩::rest) a w):wpList Tryz.prog ops Q (⟨dst,.alloc t,ty,pos,after,none⟩::rest) a w:=h
theorem Zar (t:TypeId)(h:wpList Tryz.prog ops Q (⟨dst,.box t x,ty,pos,after,none⟩::rest) a w):wpList Tryz.prog ops Q (⟨dst,.box t x,ty,pos,after,none⟩::rest) a w:=h
theorem Zac (t:TypeId)(h:wpList Tryz.prog ops Q (⟨dst,.load t x,ty,pos,after,none⟩::rest) a w):wpList Tryz.prog ops Q (⟨dst,.load t x,ty,pos,after,none⟩::rest) a w:=h
end
theorem Zaj {fn:Func}{p u v:Tmp}{ty:TypeId}(h:fn.results=#[.cell p ty,.tmp u,.tmp v])(tmps:Array Value)(w:World)(g:Nat)(x:Value)
  (hp:tmps.getD p undef=.pointer (some ⟨g,0,none⟩)) (hl:(loadVar ty ⟨g,0,none⟩).run Tryz.prog w=.ok x w) :
  (results fn tmps).run Tryz.prog w=.ok (.tuple #[x,tmps.getD u undef,tmps.getD v undef]) w:=by
 have hp':tmps[p]?.getD undef=.pointer (some ⟨g,0,none⟩):=by simpa using hp
 simp [results,h,hp',asAddr,hl]
theorem Zat {fn:Func}{p u:Tmp}{ty:TypeId}(h:fn.results=#[.cell p ty,.tmp u])(tmps:Array Value)(w:World)(g:Nat)(x:Value)
  (hp:tmps.getD p undef=.pointer (some ⟨g,0,none⟩)) (hl:(loadVar ty ⟨g,0,none⟩).run Tryz.prog w=.ok x w) :
  (results fn tmps).run Tryz.prog w=.ok (.tuple #[x,tmps.getD u undef]) w:=by
 have hp':tmps[p]?.getD undef=.pointer (some ⟨g,0,none⟩):=by simpa using hp
 simp [results,h,hp',asAddr,hl]
theorem Zaf {fn:Func}{p:Tmp}{ty:TypeId}(h:fn.results=#[.cell p ty])(tmps:Array Value)(w:World)(g:Nat)(x:Value)
  (hp:tmps.getD p undef=.pointer (some ⟨g,0,none⟩)) (hl:(loadVar ty ⟨g,0,none⟩).run Tryz.prog w=.ok x w) :
  (results fn tmps).run Tryz.prog w=.ok x w:=by
 have hp':tmps[p]?.getD undef=.pointer (some ⟨g,0,none⟩):=by simpa using hp
 simp [results,h,hp',asAddr,hl]
structure S4 where
 (a b c d:Int)
def Zce (s:S4):Array Value:=#[.int .u64 s.a,.int .u64 s.b,.int .u64 s.c,.int .u64 s.d]
def Zbf (s:S4):Value:=.agg (Zce s)
def noSet:S4:=⟨0,0,0,0⟩
theorem size25:(Tryz.prog.info? 24).map (·.size)=some 4:=by kernel_rfl
theorem Zla (s:S4):(Tryz.prog.info? 24).map (·.size)=some (Zce s).size:=size25
theorem one25 (s:S4):(Zce s).all (·.oneCell')=true:=by simp [Zce,Value.oneCell']
theorem Zh2 (dst:Option Nat)(ty:TypeId)(pos:String)(after:Array Edge)(ev:Operand->Value)(w:World):(execOp ev ⟨dst,.alloc 24,ty,pos,after,none⟩).run Tryz.prog w=.ok (.value (.pointer (some ⟨w.heap.size,0,none⟩))) (w.alloc (.cells (Zce noSet) 24)):=by
 unfold execOp
 kernel_rfl
theorem Zlb (dst:Option Nat)(ty:TypeId)(pos:String)(after:Array Edge)(ev:Operand->Value)(x:Operand)(s:S4)(hx:ev x=Zbf s)(w:World):(execOp ev ⟨dst,.box 24 x,ty,pos,after,none⟩).run Tryz.prog w=.ok (.value (.pointer (some ⟨w.heap.size,0,none⟩))) (w.alloc (.cells (Zce s) 24)):=by
 unfold execOp
 simp only [hx]
 kernel_rfl
def reA (k:Int)(s:S4)(l:Value)(mn mx:Int):Array Value:=#[.int .i64 k,.int .u64 s.a,.int .u64 s.b,.int .u64 s.c,.int .u64 s.d,l,.int .i64 mn,.int .i64 mx]
def reV (k:Int)(s:S4)(l:Value)(mn mx:Int):Value:=.agg (reA k s l mn mx)
theorem Zfn:(Tryz.prog.info? 27).map (·.size)=some 8:=by kernel_rfl
theorem Zez (dst:Option Nat)(ty:TypeId)(pos:String)(after:Array Edge)(ev:Operand->Value)(w:World):(execOp ev ⟨dst,.alloc 27,ty,pos,after,none⟩).run Tryz.prog w=.ok (.value (.pointer (some ⟨w.heap.size,0,none⟩))) (w.alloc (.cells (reA 0 noSet (.slice none 0 0) 0 0) 27)):=by
 unfold execOp
 kernel_rfl
theorem ZeA (dst:Option Nat)(ty:TypeId)(pos:String)(after:Array Edge)(ev:Operand->Value)(x:Operand)(k:Int)(s:S4)(l:Value)(mn mx:Int)(hx:ev x=reV k s l mn mx)(w:World):(execOp ev ⟨dst,.box 27 x,ty,pos,after,none⟩).run Tryz.prog w=.ok (.value (.pointer (some ⟨w.heap.size,0,none⟩))) (w.alloc (.cells (reA k s l mn mx) 27)):=by
 unfold execOp
 simp only [hx]
 kernel_rfl
theorem ZaB {w:World}{g:Nat}{s:S4}(h:w.heap[g]?=some (.cells (Zce s) 24 (0,0))):(loadVar 24 ⟨g,0,none⟩).run Tryz.prog w=.ok (Zbf s) w :=
 run_loadVar_row w g 24 24 _ (0,0) _ h Tryz.underlying24 rfl (Zla s)
theorem ZaG {w:World}{g:Nat}{k:Int}{s:S4}{l:Value}{mn mx:Int}(h:w.heap[g]?=some (.cells (reA k s l mn mx) 27 (0,0))):(loadVar 27 ⟨g,0,none⟩).run Tryz.prog w=.ok (reV k s l mn mx) w :=
 run_loadVar_row w g 27 27 _ (0,0) _ h Tryz.underlying27 rfl Zfn
section
variable {S:Nat->Prop}{w0 w:World}{L:List Ent}{ops:Array Oper}{rest:List Oper}{a:Act}{Q:Exit->Act->World->Prop}{dst:Option Nat}{x y:Operand}{ty:TypeId}{pos:String}{after:Array Edge}
theorem ZfR (t:TypeId){g:Nat}{v:Value}(hx:a.eval x=.pointer (some ⟨g,0,none⟩))(hl:(loadVar t ⟨g,0,none⟩).run Tryz.prog w=.ok v w)
  (k:wpList Tryz.prog ops Q rest (a.put dst v) w):wpList Tryz.prog ops Q (⟨dst,.load t x,ty,pos,after,none⟩::rest) a w:=by
 refine wpList_plain rfl fun K hK=>?_
 unfold Oper.wp execOp
 simp only [hx,Instr.loadAt,Instr.sureAddr,Sem.run_bind,Sem.run_pure,Result.andThen_ok,hl]
 exact hK _ _ k
theorem Zaq (i:Nat)(H:St S w0 w L){b:Bool}{g:Nat}{s:S4}(h:L[i]?=some (b,g,24,Zce s))(hx:a.eval x=.pointer (some ⟨g,0,none⟩))
  (k:wpList Tryz.prog ops Q rest (a.put dst (Zbf s)) w):wpList Tryz.prog ops Q (⟨dst,.load 24 x,ty,pos,after,none⟩::rest) a w:=ZfR 24 hx (ZaB (H.get i h)) k
theorem Zas (i:Nat)(H:St S w0 w L){b:Bool}{g:Nat}{n:Int}{s:S4}{l:Value}{mn mx:Int}(h:L[i]?=some (b,g,27,reA n s l mn mx))(hx:a.eval x=.pointer (some ⟨g,0,none⟩))
  (k:wpList Tryz.prog ops Q rest (a.put dst (reV n s l mn mx)) w):wpList Tryz.prog ops Q (⟨dst,.load 27 x,ty,pos,after,none⟩::rest) a w:=ZfR 27 hx (ZaG (H.get i h)) k
theorem Zak (H:St S w0 w L)(h:∀ g w',St S w0 w' ((true,g,24,Zce noSet)::L)->w0.heap.size<=g->w.heap.size<=g->wpList Tryz.prog ops Q rest (a.put dst (.pointer (some ⟨g,0,none⟩))) w'):wpList Tryz.prog ops Q (⟨dst,.alloc 24,ty,pos,after,none⟩::rest) a w :=
 Zc1 24 _ H (fun w=>Zh2 _ _ _ _ _ w) h
theorem Zap (H:St S w0 w L)(h:∀ g w',St S w0 w' ((true,g,27,reA 0 noSet (.slice none 0 0) 0 0)::L)->w0.heap.size<=g->w.heap.size<=g->wpList Tryz.prog ops Q rest (a.put dst (.pointer (some ⟨g,0,none⟩))) w'):wpList Tryz.prog ops Q (⟨dst,.alloc 27,ty,pos,after,none⟩::rest) a w :=
 Zc1 27 _ H (fun w=>Zez _ _ _ _ _ w) h
theorem Zel (H:St S w0 w L){s:S4}(hx:a.eval x=Zbf s)(h:∀ g w',St S w0 w' ((true,g,24,Zce s)::L)->w0.heap.size<=g->w.heap.size<=g->wpList Tryz.prog ops Q rest (a.put dst (.pointer (some ⟨g,0,none⟩))) w'):wpList Tryz.prog ops Q (⟨dst,.box 24 x,ty,pos,after,none⟩::rest) a w:=by
 refine wpList_plain rfl fun K hK=>?_
 unfold Oper.wp
 rw [Zlb _ _ _ _ _ _ s hx,Oper.upon_value]
 exact hK _ _ (h _ _ (H.alloc 24 _) H.but.size (Nat.le_refl _))
theorem ZaM (H:St S w0 w L){n:Int}{s:S4}{l:Value}{mn mx:Int}(hx:a.eval x=reV n s l mn mx)(h:∀ g w',St S w0 w' ((true,g,27,reA n s l mn mx)::L)->w0.heap.size<=g->w.heap.size<=g->wpList Tryz.prog ops Q rest (a.put dst (.pointer (some ⟨g,0,none⟩))) w'):wpList Tryz.prog ops Q (⟨dst,.box 27 x,ty,pos,after,none⟩::rest) a w:=by
 refine wpList_plain rfl fun K hK=>?_
 unfold Oper.wp
 rw [ZeA _ _ _ _ _ _ n s l mn mx hx,Oper.upon_value]
 exact hK _ _ (h _ _ (H.alloc 27 _) H.but.size (Nat.le_refl _))
theorem Zag (i:Nat)(H:St S w0 w L){g:Nat}{s s':S4}(h:L[i]?=some (true,g,24,Zce s))(hx:a.eval x=.pointer (some ⟨g,0,none⟩))(hy:a.eval y=Zbf s')
  (k:∀ w',St S w0 w' (L.set i (true,g,24,Zce s'))->wpList Tryz.prog ops Q rest a w'):wpList Tryz.prog ops Q (⟨none,.store 24 x y,ty,pos,after,none⟩::rest) a w :=
 Zc2 i 24 H h hx hy (Zla s') rfl (one25 s') k
theorem Zao (i:Nat)(H:St S w0 w L){g:Nat}{n:Int}{s:S4}{l:Value}{mn mx:Int}{n':Int}{s':S4}{l':Value}{mn' mx':Int}(h:L[i]?=some (true,g,27,reA n s l mn mx))(hx:a.eval x=.pointer (some ⟨g,0,none⟩))(hy:a.eval y=reV n' s' l' mn' mx')(hl:l'.oneCell'=true)
  (k:∀ w',St S w0 w' (L.set i (true,g,27,reA n' s' l' mn' mx'))->wpList Tryz.prog ops Q rest a w'):wpList Tryz.prog ops Q (⟨none,.store 27 x y,ty,pos,after,none⟩::rest) a w :=
 Zc2 i 27 H h hx hy Zfn rfl (by have h1:∀ k n,(Value.int k n).oneCell'=true:=fun _ _=>rfl;simp [reA,hl,h1]) k
end
open Go.RowKit
def bt (s:ByteArray)(k:Nat):Int:=if h:k<s.size then ((s[k]'h).toNat:Int) else 0
theorem bt_eq {s:ByteArray}{k:Nat}(h:k<s.size):((s[k]'h).toNat:Int)=bt s k:=by unfold bt;rw [dif_pos h]
theorem Zdw (s:ByteArray)(k:Nat):0<=bt s k/\bt s k<=255:=by
 unfold bt
 split
 ·rename_i h
  have:=UInt8.toNat_lt (s[k]'h)
  omega
 ·omega
theorem ZbD {s:ByteArray}{k:Nat}(h:bt s k≠0):k<s.size:=by
 unfold bt at h
 split at h
 ·assumption
 ·exact (h rfl).elim
theorem Zkg (s:ByteArray)(k:Nat)(w:World):Calls Tryz.prog 117 #[.string s,.int .i64 (k:Int)] w fun e w'=>e=.returned (.int .u8 (bt s k))/\w'=w:=by
 by_cases h:k<s.size
 ·have i1:¬ ((s.size:Int)<=(k:Int)):=by omega
  have i2:(k:Int)<(s.size:Int):=by omega
  have b0:=bt_eq h
  go_enter Tryz.func117,Tryz.ntmps117
  go_wp2
  go_ret
  exact⟨by rw [<- b0];rfl,rfl⟩
 ·have i1:(s.size:Int)<=(k:Int):=by omega
  have b0:bt s k=0:=by unfold bt;rw [dif_neg h]
  rw [b0]
  go_enter Tryz.func117,Tryz.ntmps117
  go_wp2
  go_ret
  exact⟨rfl,rfl⟩
def ZcH (c:Int):Bool:=decide (48<=c) && decide (c<=57)
theorem Zb6 (c:Int)(w:World):Calls Tryz.prog 71 #[.int .u8 c] w fun e w'=>e=.returned (.bool (ZcH c))/\w'=w:=by
 by_cases h1:48<=c
 ·by_cases h2:c<=57
  ·rw [show ZcH c=true by simp [ZcH,h1,h2]]
   go_enter Tryz.func71,Tryz.ntmps71
   go_wp2
   go_ret
   exact⟨by first|rfl|simp,rfl⟩
  ·rw [show ZcH c=false by simp [ZcH,h1,h2]]
   go_enter Tryz.func71,Tryz.ntmps71
   go_wp2
   go_ret
   exact⟨by first|rfl|simp,rfl⟩
 ·rw [show ZcH c=false by simp [ZcH,h1]]
  go_enter Tryz.func71,Tryz.ntmps71
  go_wp2
  go_ret
  exact⟨by first|rfl|simp,rfl⟩
def hx (c:Int):Option Int:=if 48<=c/\c<=57 then some (c - 48) else if 97<=c/\c<=102 then some (c - 87) else if 65<=c/\c<=70 then some (c - 55) else none
theorem Zd9 (c:Int)(h0:0<=c/\c<=255)(w:World):Calls Tryz.prog 229 #[.int .u8 c] w fun e w'=>e=.returned (.tuple #[.int .u8 ((hx c).getD 0),.bool (hx c).isSome])/\w'=w:=by
 unfold hx
 have D:=Zaa (Zb6 c w)
 by_cases a:48<=c/\c<=57
 ·have hd:ZcH c=true:=by simp [ZcH,a.1,a.2]
  have e1:(c - 48) % 256=c - 48:=by omega
  rw [if_pos a]
  replace a:=Zaa a
  go_enter Tryz.func229,Tryz.ntmps229
  go_wp2_with fail
  refine D.out.mono ?_
  rintro e w' ⟨rfl,rfl⟩
  rw [hd]
  go_wp2_with fail
  go_ret2
  exact⟨by simp [e1],rfl⟩
 ·have hd:ZcH c=false:=by
   simp only [ZcH];rw [<- Bool.decide_and];exact decide_eq_false a
  rw [if_neg a]
  replace a:=Zaa a
  by_cases b:97<=c/\c<=102
  ·rw [if_pos b]
   obtain⟨b1,b2⟩:=b
   have e1:(c - 97) % 256=c - 97:=by omega
   have e2:(c - 97+10) % 256=c - 87:=by omega
   go_enter Tryz.func229,Tryz.ntmps229
   go_wp2_with fail
   refine D.out.mono ?_
   rintro e w' ⟨rfl,rfl⟩
   rw [hd]
   go_wp2_with fail
   go_ret2
   exact⟨by simp [e1,e2];omega,rfl⟩
  ·rw [if_neg b]
   by_cases d:65<=c/\c<=70
   ·rw [if_pos d]
    obtain⟨d1,d2⟩:=d
    have b1:¬ 97<=c:=by omega
    replace b:=Zaa b
    have e1:(c - 65) % 256=c - 65:=by omega
    have e2:(c - 65+10) % 256=c - 55:=by omega
    go_enter Tryz.func229,Tryz.ntmps229
    go_wp2_with fail
    refine D.out.mono ?_
    rintro e w' ⟨rfl,rfl⟩
    rw [hd]
    go_wp2_with fail
    go_ret2
    exact⟨by simp [e1,e2];omega,rfl⟩
   ·rw [if_neg d]
    go_enter Tryz.func229,Tryz.ntmps229
    go_wp2_with fail
    refine D.out.mono ?_
    rintro e w' ⟨rfl,rfl⟩
    rw [hd]
    by_cases b1:97<=c
    ·have b2:¬ c<=102:=by omega
     have d1:65<=c:=by omega
     have d2:¬ c<=70:=by omega
     replace b:=Zaa b
     replace d:=Zaa d
     go_wp2_with fail
     go_ret2
     exact⟨rfl,rfl⟩
    ·by_cases d1:65<=c
     ·have d2:¬ c<=70:=by omega
      replace b:=Zaa b
      replace d:=Zaa d
      go_wp2_with fail
      go_ret2
      exact⟨rfl,rfl⟩
     ·replace b:=Zaa b
      replace d:=Zaa d
      go_wp2_with fail
      go_ret2
      exact⟨rfl,rfl⟩
theorem Zam (s:ByteArray)(k:Nat)(w:World){z:Int}(hz:z=(k:Int)):Calls Tryz.prog 117 #[.string s,.int .i64 z] w fun e w'=>e=.returned (.int .u8 (bt s k))/\w'=w:=by
 subst hz;exact Zkg s k w
def opR (s:ByteArray)(k:Nat):Nat × Bool:=if bt s (k+1)=63 then (if bt s (k+2)=58 then (k+3,true) else (k+2,false)) else (k+1,true)
theorem Zh3 (s:ByteArray)(k:Nat)(hk:k<=100000)(w:World):Calls Tryz.prog 116 #[.string s,.int .i64 (k:Int)] w fun e w'=>e=.returned (.tuple #[.int .i64 ((opR s k).1:Int),.bool (opR s k).2])/\w'=w:=by
 unfold opR
 by_cases h1:bt s (k+1)=63
 ·by_cases h2:bt s (k+2)=58
  ·rw [if_pos h1,if_pos h2]
   go_enter Tryz.func116,Tryz.ntmps116
   go_wp2_with fail
   refine (Zam s (k+1) _ (by omega)).mono ?_
   rintro e w' ⟨rfl,rfl⟩
   rw [h1]
   go_wp2_with fail
   refine (Zam s (k+2) _ (by omega)).mono ?_
   rintro e w' ⟨rfl,rfl⟩
   rw [h2]
   go_wp2_with fail
   go_ret2
   exact⟨by simp,rfl⟩
  ·have h3:(bt s (k+2) != 58)=true:=by simpa using h2
   rw [if_pos h1,if_neg h2]
   replace h2:=Zaa h2
   go_enter Tryz.func116,Tryz.ntmps116
   go_wp2_with fail
   refine (Zam s (k+1) _ (by omega)).mono ?_
   rintro e w' ⟨rfl,rfl⟩
   rw [h1]
   go_wp2_with fail
   refine (Zam s (k+2) _ (by omega)).mono ?_
   rintro e w' ⟨rfl,rfl⟩
   go_wp2_with fail
   go_ret2
   exact⟨by simp,rfl⟩
 ·have h3:(bt s (k+1) != 63)=true:=by simpa using h1
  rw [if_neg h1]
  replace h1:=Zaa h1
  go_enter Tryz.func116,Tryz.ntmps116
  go_wp2_with fail
  refine (Zam s (k+1) _ (by omega)).mono ?_
  rintro e w' ⟨rfl,rfl⟩
  go_wp2_with fail
  go_ret2
  exact⟨by simp,rfl⟩
def Zdx (s:ByteArray)(k:Nat):Int × Nat × Bool :=
 if ZcH (bt s k)=true then (if 48<bt s k/\ZcH (bt s (k+1))=true then ((bt s k - 48) * 10+(bt s (k+1) - 48),k+2,true) else (bt s k - 48,k+1,true)) else (0,k,false)
theorem Zdy {c:Int}(h:ZcH c=true):48<=c/\c<=57:=by simpa [ZcH] using h
theorem ZaZ (s:ByteArray)(k:Nat)(hk:k<=100000)(w:World){z:Int}(hz:z=(k:Int)):Calls Tryz.prog 215 #[.string s,.int .i64 z] w fun e w'=>e=.returned (.tuple #[.int .i64 (Zdx s k).1,.int .i64 ((Zdx s k).2.1:Int),.bool (Zdx s k).2.2])/\w'=w:=by
 subst hz
 unfold Zdx
 obtain⟨c,hc⟩:∃ c,bt s k=c:=⟨_,rfl⟩
 obtain⟨d,hd⟩:∃ d,bt s (k+1)=d:=⟨_,rfl⟩
 rw [hc,hd]
 replace hc:=Zaa hc
 replace hd:=Zaa hd
 cases h1:ZcH c with
 | false =>
  rw [if_neg (by simp)]
  go_enter Tryz.func215,Tryz.ntmps215
  go_wp2_with fail
  refine (Zam s k _ rfl).mono ?_
  rintro e w' ⟨rfl,rfl⟩
  rw [hc.out]
  go_wp2_with fail
  refine (Zb6 c _).mono ?_
  rintro e w' ⟨rfl,rfl⟩
  rw [h1]
  go_wp2_with fail
  go_ret3
  exact⟨rfl,rfl⟩
 | true =>
  rw [if_pos rfl]
  obtain⟨r1,r2⟩:=Zdy h1
  have e1:(c - 48) % 256=c - 48:=by omega
  by_cases h2:48<c
  ·have g1:0<c - 48:=by omega
   cases h3:ZcH d with
   | true =>
    obtain⟨q1,q2⟩:=Zdy h3
    have e2:(d - 48) % 256=d - 48:=by omega
    rw [if_pos ⟨h2,rfl⟩]
    go_enter Tryz.func215,Tryz.ntmps215
    go_wp2_with fail
    refine (Zam s k _ rfl).mono ?_
    rintro e w' ⟨rfl,rfl⟩
    rw [hc.out]
    go_wp2_with fail
    refine (Zb6 c _).mono ?_
    rintro e w' ⟨rfl,rfl⟩
    rw [h1]
    go_wp2_with fail
    refine (Zam s (k+1) _ (by omega)).mono ?_
    rintro e w' ⟨rfl,rfl⟩
    rw [hd.out]
    go_wp2_with fail
    refine (Zb6 d _).mono ?_
    rintro e w' ⟨rfl,rfl⟩
    rw [h3]
    go_wp2_with fail
    go_ret3
    exact⟨by simp [e1,e2];omega,rfl⟩
   | false =>
    rw [if_neg (by simp)]
    go_enter Tryz.func215,Tryz.ntmps215
    go_wp2_with fail
    refine (Zam s k _ rfl).mono ?_
    rintro e w' ⟨rfl,rfl⟩
    rw [hc.out]
    go_wp2_with fail
    refine (Zb6 c _).mono ?_
    rintro e w' ⟨rfl,rfl⟩
    rw [h1]
    go_wp2_with fail
    refine (Zam s (k+1) _ (by omega)).mono ?_
    rintro e w' ⟨rfl,rfl⟩
    rw [hd.out]
    go_wp2_with fail
    refine (Zb6 d _).mono ?_
    rintro e w' ⟨rfl,rfl⟩
    rw [h3]
    go_wp2_with fail
    go_ret3
    exact⟨by simp [e1],rfl⟩
  ·have g1:¬ 0<c - 48:=by omega
   rw [if_neg (fun h=>h2 h.1)]
   go_enter Tryz.func215,Tryz.ntmps215
   go_wp2_with fail
   refine (Zam s k _ rfl).mono ?_
   rintro e w' ⟨rfl,rfl⟩
   rw [hc.out]
   go_wp2_with fail
   refine (Zb6 c _).mono ?_
   rintro e w' ⟨rfl,rfl⟩
   rw [h1]
   go_wp2_with fail
   refine (Zam s (k+1) _ (by omega)).mono ?_
   rintro e w' ⟨rfl,rfl⟩
   rw [hd.out]
   go_wp2_with fail
   go_ret3
   exact⟨by simp [e1],rfl⟩
def arT (m n:Int):Bool:=decide (0<=m) && decide (m<=64) && (decide (n=-1) || decide (m<=n) && decide (n<=64))
theorem Zbm (m n:Int)(w:World):Calls Tryz.prog 181 #[.int .i64 m,.int .i64 n] w fun e w'=>e=.returned (.bool (arT m n))/\w'=w:=by
 unfold arT
 by_cases h1:0<=m <;> by_cases h2:m<=64 <;> by_cases h3:n=-1 <;> by_cases h4:m<=n <;> by_cases h5:n<=64 <;>
  (
   simp only [h1,h2,h4,h5,decide_true,decide_false,Bool.true_and,Bool.and_true,Bool.false_and,Bool.and_false,Bool.false_or,Bool.true_or,Bool.or_true,Bool.or_false]
   have h3':=h3
   first|(have k:(n == -1)=true:=by simpa using h3)|(have k:(n == -1)=false:=by simpa using h3)
   replace h3':=Zaa h3'
   clear h3
   go_enter Tryz.func181,Tryz.ntmps181
   go_wp2
   go_ret
   exact⟨by have:=h3'.out;simp [this],rfl⟩)
open Go.RowKit
set_option maxRecDepth 100000 in
theorem reg46_5 (w:World)(g b q r:Nat)(x y z:Int)(hq:(b:Int) / 64=(q:Int))(hr:(b:Int).tmod 64=(r:Int))(hb:b<=255)(hq4:(q:Int)<4)(hc:w.cell? ⟨g,q,none⟩=some (.int .u64 x))(hf:w.frozen? ⟨g,q,none⟩=false)(hy:IntKind.u64.wrap (2 ^ min r 64)=y)(hz:bits BinOp.or IntKind.u64 x y=z)
  (u0 u1 u2 u3 u4 u7 u8 u9 u10 u11 u12 u13 u14 u15 u16 u17 u18 u19 u20 u21 u22 u23 u24:Value) (Q:Exit->Act->World->Prop)
  (h:Q .normal { tmps:=(List.toArray ((u0::u1::u2::u3::u4::.pointer (some ⟨g,0,none⟩)::.int .i64 (b:Int)::u7::u8::u9::u10::u11::u12::u13::u14::.int .i64 (b:Int)::.int .i64 (q:Int)::.pointer (some ⟨g,q,none⟩)::.int .u64 x::.int .i64 (b:Int)::.int .i64 (r:Int)::.int .u64 y::.int .u64 z::.pointer (some ⟨g,q,none⟩)::u24::[]):List Value)),defers:=[] } (w.setCell ⟨g,q,none⟩ (.int .u64 z)).drew) :
  (Code.region 5 #[⟨some 15,.move (.tmp 6),3,"set.go:13",#[],none⟩,⟨some 16,.binOp .quo 3 (.tmp 15) (.const (.int .i64 64)) 3,3,"set.go:13",#[⟨0,.data⟩],none⟩,⟨some 17,.indexAddr 24 (.tmp 5) (.tmp 16),0,"set.go:13",#[⟨1,.data⟩],none⟩,⟨some 18,.load 22 (.tmp 17),22,"set.go:13",#[⟨2,.data⟩],none⟩,⟨some 19,.move (.tmp 6),3,"set.go:13",#[],none⟩,⟨some 20,.binOp .rem 3 (.tmp 19) (.const (.int .i64 64)) 3,3,"set.go:13",#[⟨4,.data⟩],none⟩,⟨some 21,.binOp .shl 22 (.const (.int .u64 1)) (.tmp 20) 3,22,"set.go:13",#[⟨5,.data⟩],none⟩,⟨some 22,.binOp .or 22 (.tmp 18) (.tmp 21) 22,22,"set.go:13",#[⟨3,.data⟩,⟨6,.data⟩],none⟩,⟨some 23,.indexAddr 24 (.tmp 5) (.tmp 16),0,"set.go:13",#[⟨1,.data⟩,⟨0,.phase⟩,⟨1,.phase⟩,⟨2,.phase⟩,⟨3,.phase⟩,⟨4,.phase⟩,⟨5,.phase⟩,⟨6,.phase⟩,⟨7,.phase⟩],none⟩,⟨none,.store 22 (.tmp 23) (.tmp 22),0,"set.go:13",#[⟨8,.data⟩,⟨7,.data⟩,⟨0,.phase⟩,⟨1,.phase⟩,⟨2,.phase⟩,⟨3,.phase⟩,⟨4,.phase⟩,⟨5,.phase⟩,⟨6,.phase⟩,⟨7,.phase⟩],none⟩] true).wp Tryz.prog Q { tmps:=(List.toArray ((u0::u1::u2::u3::u4::.pointer (some ⟨g,0,none⟩)::.int .i64 (b:Int)::u7::u8::u9::u10::u11::u12::u13::u14::u15::u16::u17::u18::u19::u20::u21::u22::u23::u24::[]):List Value)),defers:=[] } w:=by
 have hw:IntKind.i64.wrap (q:Int)=(q:Int):=by rw [IntKind.wrap_i64];omega
 have hi:¬ ((q:Int)<0):=by omega
 have hi2:0<=(q:Int):=by omega
 have hr0:¬ ((r:Int)<0):=by omega
 replace h:=Zaa h
 refine wp_region_noPanic ?_
 refine wp_region_any (by kernel_rfl) ?_
 change wpAny _ _ _ _ _ _ _ (World.drew w)
 refine wpAny_take (i:=0)  (v:=?_) rfl (by kernel_rfl) (by kernel_rfl) (by kernel_rfl) (fun _ _ _ h=>h) (Or.inl ⟨by rfl,?_⟩) ?_
 rotate_left
 ·intro w'
  go_simp
  try with_reducible rfl
 try simp only [Act.put,PuA]
 refine wpAny_take (i:=1)  (v:=?_) rfl (by kernel_rfl) (by kernel_rfl) (by kernel_rfl) (fun _ _ _ h=>h) (Or.inl ⟨by rfl,?_⟩) ?_
 rotate_left
 ·intro w'
  go_simp
  try with_reducible rfl
 try simp only [Act.put,PuA]
 refine wpAny_take (i:=2)  (v:=?_) rfl (by kernel_rfl) (by kernel_rfl) (by kernel_rfl) (fun _ _ _ h=>h) (Or.inl ⟨by rfl,?_⟩) ?_
 rotate_left
 ·intro w'
  go_simp
  try with_reducible rfl
 try simp only [Act.put,PuA]
 refine wpAny_take (i:=4)  (v:=?_) rfl (by kernel_rfl) (by kernel_rfl) (by kernel_rfl) (fun _ _ _ h=>h) (Or.inl ⟨by rfl,?_⟩) ?_
 rotate_left
 ·intro w'
  go_simp
  try with_reducible rfl
 try simp only [Act.put,PuA]
 refine wpAny_take (i:=5)  (v:=?_) rfl (by kernel_rfl) (by kernel_rfl) (by kernel_rfl) (fun _ _ _ h=>h) (Or.inl ⟨by rfl,?_⟩) ?_
 rotate_left
 ·intro w'
  go_simp
  try with_reducible rfl
 try simp only [Act.put,PuA]
 refine wpAny_take (i:=6)  (v:=?_) rfl (by kernel_rfl) (by kernel_rfl) (by kernel_rfl) (fun _ _ _ h=>h) (Or.inl ⟨by rfl,?_⟩) ?_
 rotate_left
 ·intro w'
  go_simp
  try with_reducible rfl
 try simp only [Act.put,PuA]
 refine wpAny_ready (rs:=[3]) (by kernel_rfl) (by simp) ?_
 refine (AllReady.cons rfl (fun K3 hK3=>?_) AllReady.nil)
 go_simp
 refine hK3 _ _ ?_
 clear hK3 K3
 try simp only [Act.put,PuA]
 refine wpAny_take (i:=7)  (v:=?_) rfl (by kernel_rfl) (by kernel_rfl) (by kernel_rfl) (fun _ _ _ h=>h) (Or.inl ⟨by rfl,?_⟩) ?_
 rotate_left
 ·intro w'
  go_simp
  try with_reducible rfl
 try simp only [Act.put,PuA]
 refine wpAny_take (i:=8)  (v:=?_) rfl (by kernel_rfl) (by kernel_rfl) (by kernel_rfl) (fun _ _ _ h=>h) (Or.inl ⟨by rfl,?_⟩) ?_
 rotate_left
 ·intro w'
  go_simp
  try with_reducible rfl
 try simp only [Act.put,PuA]
 refine wpAny_ready (rs:=[9]) (by kernel_rfl) (by simp) ?_
 refine (AllReady.cons rfl (fun K9 hK9=>?_) AllReady.nil)
 go_simp
 refine hK9 _ _ ?_
 clear hK9 K9
 try simp only [Act.put,PuA]
 refine wpAny_done (by kernel_rfl) ?_ _
 refine NoPanic.normal ?_
 exact h.out
def S4.get (s:S4):Nat->Int
 | 0=>s.a|1=>s.b|2=>s.c|_=>s.d
def S4.put (s:S4)(q:Nat)(x:Int):S4:=match q with
 | 0=>{ s with a:=x }|1=>{ s with b:=x }|2=>{ s with c:=x }|_=>{ s with d:=x }
def bit (b:Nat):Int:=IntKind.u64.wrap (2 ^ min (b % 64) 64)
def S4.add (s:S4)(b:Nat):S4:=s.put (b / 64) (bits BinOp.or IntKind.u64 (s.get (b / 64)) (bit b))
def spn (lo:Nat):Nat->S4
 | 0=>noSet
 | n+1=>(spn lo n).add (lo+n)
theorem Zjd (s:S4)(q:Nat)(h:q<4):(Zce s)[q]?=some (.int .u64 (s.get q)):=by
 match q,h with
 | 0,_=>rfl|1,_=>rfl|2,_=>rfl|3,_=>rfl
theorem ZfS (s:S4)(q:Nat)(h:q<4)(x:Int):(Zce s).setIfInBounds q (.int .u64 x)=Zce (s.put q x):=by
 match q,h with
 | 0,_=>rfl|1,_=>rfl|2,_=>rfl|3,_=>rfl
theorem ZgG (s:S4):(Zce s).size=4:=rfl
theorem St.setCell {S:Nat->Prop}{w0 w:World}{L:List Ent}(H:St S w0 w L)(i:Nat){g:Nat}{t:TypeId}{xs:Array Value}(h:L[i]?=some (true,g,t,xs))(j:Nat)(v:Value):St S w0 (w.setCell ⟨g,j,none⟩ v) (L.set i (true,g,t,xs.setIfInBounds j v)):=by
 rw [setCell_eq_setRow w g j xs t (0,0) v (H.get i h)]
 exact H.setRow i h _
def Zcn (lo hi:Nat):S4:=spn lo (hi+1 - lo)
theorem ZaD (lo hi:Nat)(hlo:lo<=255)(hhi:hi<=255)(w:World){x y:Int}(hx:x=(lo:Int))(hy:y=(hi:Int)):Calls Tryz.prog 172 #[.int .u8 x,.int .u8 y] w fun e w'=>e=.returned (Zbf (Zcn lo hi))/\Below w.heap.size w w':=by
 subst hx hy
 have H:=St.start Nope w
 go_enter Tryz.func172,Tryz.ntmps172
 go_wp2_with (with_reducible refine Zae 24 ?_;refine Zak H ?_;clear H;intro g w' H h1 h2;clear h1 h2)
 rename_i g1 w1 K hK
 go_loopw [6] (fun b wr=>∃ k:Nat,lo+k<=max (hi+1) lo/\b=.int .i64 ((lo+k:Nat):Int)/\Hid (St Nope w wr [(true,g,24,Zce (spn lo k)),(true,g1,24,Zce noSet)])) (fun b _=>hi+1 - (intOf b).toNat)
 case atStart=>exact⟨0,by omega,by simp,H⟩
 case round =>
  obtain⟨k,hk,rfl,H2⟩:=hrel
  clear H
  obtain⟨b,hb⟩:∃ b,lo+k=b:=⟨_,rfl⟩
  rw [hb]
  by_cases hlt:b<=hi
  ·have i1:(b:Int)<=(hi:Int):=by omega
   have hq:b / 64<4:=by omega
   have hc:=H2.out.cell 0 (b / 64) rfl (Zjd (spn lo k) _ hq)
   have hf:=H2.out.fz 0 (b / 64) rfl
   have H3:=H2.out.setCell 0 rfl (b / 64) (.int .u64 (bits BinOp.or IntKind.u64 ((spn lo k).get (b / 64)) (bit b)))
   rw [ZfS _ _ hq] at H3
   replace H3:=Zaa H3
   replace hk:=Zaa hk
   replace hb:=Zaa hb
   replace hc:=Zaa hc
   replace hf:=Zaa hf
   go_wp2_with fail
   refine reg46_5 wr g b (b / 64) (b % 64) _ (bit b) _ (by omega) (by rw [Int.tmod_eq_emod_of_nonneg (by omega)];omega) (by omega) (by omega) hc.out hf.out rfl rfl _ _ _ _ _ _ _ _ _ _ _ _ _ _ _ _ _ _ _ _ _ _ _ _ ?_
   go_wp2_with fail
   go_roundw
   case rel=>exact⟨k+1,by have:=hb.out;omega,by have:=hb.out;go_num,(by
    have h4:=H3.out.drew
    have e:(spn lo (k+1))=(spn lo k).put (b / 64) (bits BinOp.or IntKind.u64 ((spn lo k).get (b / 64)) (bit b)):=by show (spn lo k).add (lo+k)=_;rw [hb.out];rfl
    rw [e];exact h4:St Nope w _ _)⟩
   case measure=>simp [intOf];omega
  ·have i1:¬ ((b:Int)<=(hi:Int)):=by omega
   have e:Zcn lo hi=spn lo k:=by unfold Zcn;congr 1;omega
   replace e:=Zaa e
   have H:=H2.out
   replace hk:=Zaa hk
   replace hb:=Zaa hb
   go_wp2_with (first|(with_reducible refine Zac 24 ?_;refine Zaq 0 H rfl rfl ?_)|(with_reducible refine Zab 24 ?_;refine Zag 1 H rfl rfl rfl ?_;clear H;intro w' H))
   refine bodyPost_ret (Zaf rfl _ _ g1 _ rfl (ZaB (H.get 1 rfl))) rfl ?_
   exact⟨by rw [e.out],H.below⟩
open Go.RowKit
theorem one23:∀ w,(sizeOf 22).run Tryz.prog w=.ok 1 w:=fun w=>by kernel_rfl
theorem idx25 (s:S4)(k:Nat)(h:k<4)(w:World):(Instr.index 24 (Zbf s) (.int .i64 (k:Int))).run Tryz.prog w=.ok (.int .u64 (s.get k)) w:=by
 rcases (show k=0\/k=1\/k=2\/k=3 by omega) with rfl|rfl|rfl|rfl <;> kernel_rfl
theorem wr64 (k:Nat)(h:k<1000000):IntKind.i64.wrap (k:Int)=(k:Int):=by rw [IntKind.wrap_i64];omega
def nt (x:Int):Int:=bits BinOp.xor IntKind.u64 IntKind.u64.max x
def mapK (f:Int->Int->Int)(o s:S4):Nat->S4
 | 0=>o
 | k+1=>(mapK f o s k).put k (f ((mapK f o s k).get k) (s.get k))
def oth (s:S4):S4:=mapK (fun _ y=>nt y) noSet s 4
theorem Zco (s:S4)(w:World):Calls Tryz.prog 171 #[Zbf s] w fun e w'=>e=.returned (Zbf (oth s))/\Below w.heap.size w w':=by
 have H:=St.start Nope w
 go_enter Tryz.func171,Tryz.ntmps171
 go_wp2_with (first|(with_reducible refine Zae 24 ?_;refine Zak H ?_;clear H;intro g w' H h1 h2;clear h1 h2)|(with_reducible refine Zar 24 ?_;refine Zel H rfl ?_;clear H;intro g w' H h1 h2;clear h1 h2)|(with_reducible refine Zac 24 ?_;refine Zaq 2 H rfl rfl ?_))
 rename_i g1 w1 g2 w2 K hK
 go_loopw [7] (fun b wr=>∃ k:Nat,k<=4/\b=.int .i64 (k:Int)/\Hid (St Nope w wr [(true,g,24,Zce (mapK (fun _ y=>nt y) noSet s k)),(true,g2,24,Zce noSet),(true,g1,24,Zce s)])) (fun b _=>4 - (intOf b).toNat)
 case atStart=>exact⟨0,by omega,rfl,H⟩
 case round =>
  obtain⟨k,hk,rfl,H2⟩:=hrel
  clear H
  have H:=H2.out
  clear H2
  by_cases hlt:k<4
  ·have i1:(k:Int)<4:=by omega
   have hw:=wr64 k (by omega)
   have hi:=Zaa (fun w=>idx25 s k hlt w)
   have hi2:=fun w=>hi.out w
   clear hi
   go_wp2_with (first|(with_reducible refine Zab 22 ?_;refine Zbt 0 k 22 (v:=.int .u64 (nt (s.get k))) H rfl rfl rfl (by rw [ZgG];exact hlt) one23 rfl ?_;clear H;intro w' H))
   go_roundw
   case rel=>exact⟨k+1,by omega,by go_num,(by
    have h4:=H
    simp only [List.set_cons_zero] at h4
    rw [ZfS _ _ hlt] at h4
    exact h4:St Nope w _ _)⟩
   case measure=>simp [intOf];omega
  ·obtain rfl:k=4:=by omega
   go_wp2_with (first|(with_reducible refine Zac 24 ?_;refine Zaq 0 H rfl rfl ?_)|(with_reducible refine Zab 24 ?_;refine Zag 1 H rfl rfl rfl ?_;clear H;intro w' H))
   refine bodyPost_ret (Zaf rfl _ _ g2 _ rfl (ZaB (H.get 1 rfl))) rfl ?_
   exact⟨rfl,H.below⟩
def oc1 (x:Int):Int:=IntKind.u64.wrap (bits BinOp.and IntKind.u64 (x / 2) 6148914691236517205+bits BinOp.and IntKind.u64 x 6148914691236517205)
def oc2 (x:Int):Int:=IntKind.u64.wrap (bits BinOp.and IntKind.u64 (x / 4) 3689348814741910323+bits BinOp.and IntKind.u64 x 3689348814741910323)
def oc3 (x:Int):Int:=bits BinOp.and IntKind.u64 (IntKind.u64.wrap (x / 16+x)) 1085102592571150095
def oc4 (x:Int):Int:=IntKind.u64.wrap (x+x / 256)
def oc5 (x:Int):Int:=IntKind.u64.wrap (x+x / 65536)
def oc6 (x:Int):Int:=IntKind.u64.wrap (x+x / 4294967296)
def oc (x:Int):Int:=bits BinOp.and IntKind.i64 (wrap64 (oc6 (oc5 (oc4 (oc3 (oc2 (oc1 x))))))) 127
theorem ones_any (x:Int)(w:World):Calls Tryz.prog 232 #[.int .u64 x] w fun e w'=>e=.returned (.int .i64 (oc x))/\w'=w:=by
 go_enter Tryz.func232,Tryz.ntmps232
 go_wp2
 go_ret
 exact⟨rfl,rfl⟩
def Tab (w:World):Prop:=∀ j,j<64->w.cell? ⟨0,j,none⟩=some (.int .u8 ((Lib.deBruijn64tab.getD j 0:Nat):Int))
theorem Tab.pos {w:World}(h:Tab w):0<w.heap.size:=World.block_lt_of_cell? w _ (h 0 (by decide))
theorem Tab.kept {w w':World}{B:Nat}(h:Tab w)(hb:Below B w w')(hB:0<B):Tab w':=fun i hi=>(hb.cell (p:=⟨0,i,none⟩) hB).trans (h i hi)
theorem Tab.below {w w':World}(h:Tab w)(hb:Below w.heap.size w w'):Tab w':=h.kept hb h.pos
theorem Tab.but {S:Nat->Prop}{w w':World}(h:Tab w)(hb:But S w w')(hS:∀ k,k<=0->¬ S k):Tab w':=fun i hi=>(World.cell?_of_block (hb.block 0 h.pos (hS 0 (by omega)))).trans (h i hi)
theorem Tab.st {S:Nat->Prop}{w0 w:World}{L:List Ent}(h:Tab w0)(H:St S w0 w L)(hS:∀ k,k<=0->¬ S k):Tab w:=h.but H.but hS
def tz (x:Nat):Nat:=Lib.ctz 64 x
theorem tz_key (x a:Nat)(hx:x<18446744073709551616)(hx0:x≠0)(hlow:x &&& (18446744073709551616 - x)=a) :
  IntKind.u64.wrap (bits BinOp.and IntKind.u64 (x:Int) (IntKind.u64.wrap (-(x:Int))) * 285870213051353865) / 288230376151711744=((a * 285870213051353865 % 18446744073709551616 / 288230376151711744:Nat):Int):=by
 have e1:IntKind.u64.wrap (-(x:Int))=((18446744073709551616 - x:Nat):Int):=by rw [IntKind.wrap_u64];omega
 rw [e1,u64_and_nat x _ hx (by omega),hlow,IntKind.wrap_u64]
 omega
theorem tz_core (x k idx:Nat)(w:World)(hx0:((x:Int) == 0)=false)
  (key:IntKind.u64.wrap (bits BinOp.and IntKind.u64 (x:Int) (IntKind.u64.wrap (-(x:Int))) * 285870213051353865) / 288230376151711744=(idx:Int))
  (hi:idx<64) (hk:k<64) (hcell:w.cell? ⟨0,idx,none⟩=some (.int .u8 k)) :
  Calls Tryz.prog 170 #[.int .u64 (x:Int)] w fun e w'=>e=.returned (.int .i64 (k:Int))/\w'=w:=by
 go_enter Tryz.func170,Tryz.ntmps170
 go_wp2_with (simp only [key])
 go_ret
 exact⟨rfl,rfl⟩
theorem Zh4 (x:Nat)(h0:0<x)(hx:x<18446744073709551616):x &&& (18446744073709551616 - x)=2 ^ tz x/\tz x<64:=Lib.lowest_bit 64 x (by omega) hx
theorem tz_any (x:Nat)(w:World)(h0:0<x)(hx:x<18446744073709551616)(hT:Tab w) :
  Calls Tryz.prog 170 #[.int .u64 (x:Int)] w fun e w'=>e=.returned (.int .i64 ((tz x:Nat):Int))/\w'=w:=by
 obtain⟨hlow,hk⟩:=Zh4 x h0 hx
 obtain⟨hi,htab⟩:=Lib.deBruijn64_at _ hk
 have hcell:=hT _ hi
 rw [htab] at hcell
 exact tz_core x _ _ w (by simp;omega) (tz_key x _ hx (by omega) hlow) hi hk hcell
theorem tz_i (y:Int)(w:World)(h0:0<y)(hx:y<18446744073709551616)(hT:Tab w) :
  Calls Tryz.prog 170 #[.int .u64 y] w fun e w'=>e=.returned (.int .i64 ((tz y.toNat:Nat):Int))/\w'=w:=by
 have:=tz_any y.toNat w (by omega) (by omega) hT
 rwa [show ((y.toNat:Nat):Int)=y by omega] at this
theorem Zje (x:Int):0<=oc x/\oc x<=127:=by
 unfold oc
 rw [i64_and127]
 omega
def OkS (s:S4):Prop:=∀ k,k<4->0<=s.get k/\s.get k<18446744073709551616
theorem get_put (s:S4)(q k:Nat)(x:Int)(hq:q<4)(hk:k<4):(s.put q x).get k=if q=k then x else s.get k:=by
 rcases (show k=0\/k=1\/k=2\/k=3 by omega) with rfl|rfl|rfl|rfl <;> rcases (show q=0\/q=1\/q=2\/q=3 by omega) with rfl|rfl|rfl|rfl <;> rfl
theorem OkS.put {s:S4}(h:OkS s)(q:Nat)(hq:q<4){x:Int}(hx:0<=x/\x<18446744073709551616):OkS (s.put q x):=fun k hk=>by
 rw [get_put s q k x hq hk]
 split
 ·exact hx
 ·exact h k hk
theorem ZaX:OkS noSet:=fun k hk=>by
 rcases (show k=0\/k=1\/k=2\/k=3 by omega) with rfl|rfl|rfl|rfl <;> exact⟨by decide,by decide⟩
theorem Zjf {x y:Int}(hx:0<=x/\x<18446744073709551616)(hy:0<=y/\y<18446744073709551616):0<=bits BinOp.or IntKind.u64 x y/\bits BinOp.or IntKind.u64 x y<18446744073709551616:=by
 rw [u64_or x y hx.1 hx.2 hy.1 hy.2]
 have:=Nat.or_lt_two_pow (n:=64) (x:=x.toNat) (y:=y.toNat) (by omega) (by omega)
 omega
theorem nt_range {y:Int}(hy:0<=y/\y<18446744073709551616):0<=nt y/\nt y<18446744073709551616:=by
 unfold nt
 rw [u64_xor _ y (by decide) (by decide) hy.1 hy.2]
 have:=Nat.xor_lt_two_pow (n:=64) (x:=IntKind.u64.max.toNat) (y:=y.toNat) (by decide) (by omega)
 omega
theorem Zlc (b:Nat):0<=bit b/\bit b<18446744073709551616:=by
 unfold bit
 rw [IntKind.wrap_u64]
 omega
theorem OkS.add {s:S4}(h:OkS s)(b:Nat)(hb:b<=255):OkS (s.add b):=h.put _ (by omega) (Zjf (h _ (by omega)) (Zlc b))
theorem spn_ok (lo:Nat):∀ n,lo+n<=256->OkS (spn lo n)
 | 0,_=>ZaX
 | n+1,h=>(spn_ok lo n (by omega)).add _ (by omega)
theorem Zb7 (lo hi:Nat)(hl:lo<=255)(hh:hi<=255):OkS (Zcn lo hi):=spn_ok lo _ (by omega)
theorem ZfT {f:Int->Int->Int}{o s:S4}(ho:OkS o)(hs:OkS s)(hf:∀ x y,(0<=x/\x<18446744073709551616)->(0<=y/\y<18446744073709551616)->0<=f x y/\f x y<18446744073709551616):∀ k,k<=4->OkS (mapK f o s k)
 | 0,_=>ho
 | k+1,h=>(ZfT ho hs hf k (by omega)).put k (by omega) (hf _ _ (ZfT ho hs hf k (by omega) k (by omega)) (hs k (by omega)))
theorem ZgH {s:S4}(h:OkS s):OkS (oth s):=ZfT ZaX h (fun _ y _ hy=>nt_range hy) 4 (by omega)
def cnt (s:S4):Nat->Int
 | 0=>0
 | k+1=>if s.get k=0 then cnt s k else cnt s k+oc (s.get k)
def ZgI (s:S4):Nat->Int
 | 0=>0
 | k+1=>if s.get k=0 then ZgI s k else (k:Int) * 64+(tz (s.get k).toNat:Int)
theorem ZgJ (s:S4):∀ k,0<=cnt s k/\cnt s k<=127 * (k:Int)
 | 0=>by simp [cnt]
 | k+1=>by
  have h1:=ZgJ s k
  have h2:=Zje (s.get k)
  unfold cnt
  split <;> omega
theorem ZdR {s:S4}(h:OkS s):∀ k,k<=4->0<=ZgI s k/\ZgI s k<=255
 | 0,_=>by simp [ZgI]
 | k+1,hk=>by
  have h1:=ZdR h k (by omega)
  unfold ZgI
  split
  ·exact h1
  ·rename_i h0
   have h3:=h k (by omega)
   have:=(Zh4 (s.get k).toNat (by omega) (by omega)).2
   omega
def only (s:S4):Option Int:=if cnt s 4=1 then some (ZgI s 4) else none
theorem Zjg (s:S4)(hs:OkS s)(w:World)(hT:Tab w):Calls Tryz.prog 228 #[Zbf s] w fun e w'=>e=.returned (.tuple #[.int .u8 ((only s).getD 0),.bool (only s).isSome])/\Below w.heap.size w w':=by
 have H:=St.start Nope w
 go_enter Tryz.func228,Tryz.ntmps228
 go_wp2_with (first|(with_reducible refine Zar 24 ?_;refine Zel H rfl ?_;clear H;intro g w' H h1 h2;clear h1 h2)|(with_reducible refine Zac 24 ?_;refine Zaq 0 H rfl rfl ?_))
 go_loopw [4,5,9] (fun n p b wr=>∃ k:Nat,k<=4/\n=.int .i64 (cnt s k)/\p=.int .i64 (ZgI s k)/\b=.int .i64 (k:Int)/\Hid (St Nope w wr [(true,g,24,Zce s)])) (fun _ _ b _=>4 - (intOf b).toNat)
 case atStart=>exact⟨0,by omega,rfl,rfl,rfl,H⟩
 case round =>
  obtain⟨k,hk,rfl,rfl,rfl,H2⟩:=hrel
  clear H
  have H:=H2.out
  clear H2
  have hT2:=Zaa (hT.st H (fun _ _ h=>h))
  by_cases hlt:k<4
  ·have i1:(k:Int)<4:=by omega
   have hi2:=fun w=>idx25 s k hlt w
   have hr:=hs k hlt
   by_cases hz:s.get k=0
   ·have e1:Hid (cnt s (k+1)=cnt s k):=by show cnt s (k+1)=_;simp [cnt,hz]
    have e2:Hid (ZgI s (k+1)=ZgI s k):=by show ZgI s (k+1)=_;simp [ZgI,hz]
    rw [hz] at hi2
    clear hz hr
    replace hs:=Zaa hs
    go_wp2_with fail
    go_roundw
    case rel=>exact⟨k+1,by omega,by rw [e1.out],by rw [e2.out],by go_num,H⟩
    case measure=>simp [intOf];omega
   ·have e1:Hid (cnt s (k+1)=cnt s k+oc (s.get k)):=by show cnt s (k+1)=_;simp [cnt,hz]
    have e2:Hid (ZgI s (k+1)=(k:Int) * 64+(tz (s.get k).toNat:Int)):=by show ZgI s (k+1)=_;simp [ZgI,hz]
    have T:=Zaa (fun w hT=>tz_i (s.get k) w (by omega) hr.2 hT)
    have ht:=(Zh4 (s.get k).toNat (by omega) (by omega)).2
    have hc:=ZgJ s k
    have ho:=Zje (s.get k)
    have hz2:(s.get k != 0)=true:=by simpa using hz
    replace hz:=Zaa hz
    obtain⟨x,hx⟩:∃ x,s.get k=x:=⟨_,rfl⟩
    rw [hx] at hi2 e1 e2 T ht ho hz2
    replace hs:=Zaa hs
    replace hx:=Zaa hx
    replace hz2:=hz2
    obtain⟨t,htt⟩:∃ t,tz x.toNat=t:=⟨_,rfl⟩
    rw [htt] at e2 T ht
    go_wp2_with fail
    refine (ones_any x _).mono ?_
    rintro e w1 ⟨rfl,rfl⟩
    go_wp2_with fail
    refine (T.out _ hT2.out).mono ?_
    rintro e w1 ⟨rfl,rfl⟩
    go_wp2_with fail
    go_roundw
    case rel=>exact⟨k+1,by omega,by rw [e1.out],by rw [e2.out],by go_num,H⟩
    case measure=>simp [intOf];omega
  ·obtain rfl:k=4:=by omega
   have hp:=ZdR hs 4 (by omega)
   by_cases h1:cnt s 4=1
   ·have e:Hid (only s=some (ZgI s 4)):=by show only s=_;simp [only,h1]
    have e1:(ZgI s 4) % 256=ZgI s 4:=by omega
    replace hs:=Zaa hs
    rw [h1]
    clear h1
    go_wp2_with fail
    go_ret2
    exact⟨by rw [e.out];simp [e1],H.below⟩
   ·have e:Hid (only s=none):=by show only s=_;simp [only,h1]
    have h2:(cnt s 4 != 1)=true:=by simpa using h1
    replace hs:=Zaa hs
    replace h1:=Zaa h1
    go_wp2_with fail
    go_ret2
    exact⟨by rw [e.out];rfl,H.below⟩
open Go.RowKit
section
variable {S:Nat->Prop}{w0 w:World}{L:List Ent}{ops:Array Oper}{rest:List Oper}{a:Act}{Q:Exit->Act->World->Prop}{dst:Option Nat}{x y:Operand}{ty:TypeId}{pos:String}{after:Array Edge}
theorem Zau (t:TypeId){ad:Addr}{v:Value}(hx:a.eval x=.pointer (some ad))(hl:(loadVar t ad).run Tryz.prog w=.ok v w)
  (k:wpList Tryz.prog ops Q rest (a.put dst v) w):wpList Tryz.prog ops Q (⟨dst,.load t x,ty,pos,after,none⟩::rest) a w:=by
 refine wpList_plain rfl fun K hK=>?_
 unfold Oper.wp execOp
 simp only [hx,Instr.loadAt,Instr.sureAddr,Sem.run_bind,Sem.run_pure,Result.andThen_ok,hl]
 exact hK _ _ k
end
theorem Zh5 {w:World}{b o:Nat}{s:S4}(h:∀ q,q<4->w.cell? ⟨b,o+q,none⟩=some (.int .u64 (s.get q))):(loadVar 24 ⟨b,o,none⟩).run Tryz.prog w=.ok (Zbf s) w:=by
 have h0:=h 0 (by omega)
 have h1:=h 1 (by omega)
 have h2:=h 2 (by omega)
 have h3:=h 3 (by omega)
 have hz:∀ w,(sizeOf 24).run Tryz.prog w=.ok 4 w:=fun w=>by kernel_rfl
 have ha:∀ w,(isAgg 24).run Tryz.prog w=.ok true w:=fun w=>by kernel_rfl
 simp only [Nat.add_zero] at h0
 simp [loadVar,hz,ha,loadCells,go_sem,h0,h1,h2,h3,Zav]
 rfl
structure HasU (w:World) (a:Option Addr) (n:Nat) (L:List S4):Prop where
 hlen:L.length=n
 small:n<=1000
 cells:0<n->∃ b,a=some ⟨b,0,none⟩/\b<w.heap.size/\∀ i,i<n->∀ q,q<4->w.cell? ⟨b,i * 4+q,none⟩=some (.int .u64 ((L.getD i noSet).get q))
def orS (o s:S4):S4:=mapK (fun x y=>bits BinOp.or IntKind.u64 x y) o s 4
def uni (L:List S4):S4:=L.foldl orS noSet
theorem uni_take (L:List S4)(k:Nat)(h:k<L.length):uni (L.take (k+1))=orS (uni (L.take k)) (L.getD k noSet):=by
 unfold uni
 rw [List.take_add_one,List.getElem?_eq_getElem h,Option.toList_some,List.foldl_append]
 simp only [List.foldl_cons,List.foldl_nil,List.getD,List.getElem?_eq_getElem h,Option.getD_some]
theorem orS_ok {o s:S4}(ho:OkS o)(hs:OkS s):OkS (orS o s):=ZfT ho hs (fun x y hx hy=>Zjf hx hy) 4 (by omega)
theorem ZgK {L:List S4}(h:∀ s ∈ L,OkS s):OkS (uni L):=by
 unfold uni
 have:∀ (L:List S4) (o:S4),OkS o->(∀ s ∈ L,OkS s)->OkS (L.foldl orS o):=by
  intro L
  induction L with
  | nil=>intro o ho _;exact ho
  | cons s L ih=>intro o ho hl;exact ih _ (orS_ok ho (hl s (by simp))) (fun t ht=>hl t (by simp [ht]))
 exact this L _ ZaX h
theorem Zcp (w:World)(a:Option Addr)(n:Nat)(L:List S4)(hU:HasU w a n L):Calls Tryz.prog 212 #[.slice a n n] w fun e w'=>e=.returned (Zbf (uni L))/\Below w.heap.size w w':=by
 have H:=St.start Nope w
 have hl:=hU.hlen
 have hn:=hU.small
 replace hU:=Zaa hU.cells
 go_enter Tryz.func212,Tryz.ntmps212
 go_wp2_with (first|(with_reducible refine Zae 24 ?_;refine Zak H ?_;clear H;intro g w' H h1 h2;clear h1 h2))
 rename_i g1 w1 K hK
 go_loopw [10] (fun b wr=>∃ k:Nat,k<=n/\b=.int .i64 (k:Int)/\Hid (St Nope w wr [(true,g,24,Zce (uni (L.take k))),(true,g1,24,Zce noSet)])) (fun b _=>n - (intOf b).toNat)
 case atStart=>exact⟨0,by omega,rfl,H⟩
 case round =>
  obtain⟨k,hk,rfl,H2⟩:=hrel
  clear H
  have H:=H2.out
  clear H2
  by_cases hlt:k<n
  ·have i1:(k:Int)<n:=by omega
   obtain⟨b,rfl,hb,hc⟩:=hU.out (by omega)
   have hl25:=Zh5 (w:=wr) (b:=b) (o:=k * 4) (s:=L.getD k noSet) (fun q hq=>(H.below.cell (p:=⟨b,k * 4+q,none⟩) hb).trans (hc k hlt q hq))
   have e:=Zaa (uni_take L k (by omega))
   generalize L.getD k noSet=s at hl25 e
   generalize uni (L.take k)=o at H e
   replace hc:=Zaa hc
   replace hl25:=Zaa hl25
   go_wp2_with (first|(with_reducible refine Zac 24 ?_;first|(refine Zaq 0 H rfl rfl ?_)|(refine Zau 24 rfl hl25.out ?_))|(with_reducible refine Zae 24 ?_;refine Zak H ?_;clear H;intro g3 w' H h1 h2;clear h1 h2)|(with_reducible refine Zab 24 ?_;refine Zag 0 H rfl rfl rfl ?_;clear H;intro w' H))
   go_loopw [15] (fun b wr=>∃ j:Nat,j<=4/\b=.int .i64 (j:Int)/\Hid (St Nope w wr [(true,g3,24,Zce s),(true,g,24,Zce (mapK (fun x y=>bits BinOp.or IntKind.u64 x y) o s j)),(true,g1,24,Zce noSet)])) (fun b _=>4 - (intOf b).toNat)
   case atStart=>exact⟨0,by omega,rfl,H⟩
   case round =>
    obtain⟨j,hj,rfl,H2⟩:=hrel
    clear H
    have H:=H2.out
    clear H2
    by_cases hj4:j<4
    ·have i2:(j:Int)<4:=by omega
     have hw:=wr64 j (by omega)
     have hi2:=fun w=>idx25 s j hj4 w
     generalize hx:mapK (fun x y=>bits BinOp.or IntKind.u64 x y) o s j=m at H
     have hcl:=H.cell 1 j rfl (Zjd m j hj4)
     have e2:Hid (mapK (fun x y=>bits BinOp.or IntKind.u64 x y) o s (j+1)=m.put j (bits BinOp.or IntKind.u64 (m.get j) (s.get j))):=by rw [<- hx];rfl
     replace hx:=Zaa hx
     go_wp2_with (first|(with_reducible refine Zab 22 ?_;refine Zbt 1 j 22 (v:=.int .u64 (bits BinOp.or IntKind.u64 (m.get j) (s.get j))) H rfl rfl rfl (by rw [ZgG];exact hj4) one23 rfl ?_;clear H;intro w' H))
     go_roundw
     case rel=>exact⟨j+1,by omega,by go_num,(by
      have h4:=H
      simp only [List.set_cons_succ,List.set_cons_zero] at h4
      rw [ZfS _ _ hj4,<- e2.out] at h4
      exact h4:St Nope w _ _)⟩
     case measure=>simp [intOf];omega
    ·obtain rfl:j=4:=by omega
     go_wp2_with fail
     go_roundw
     case rel=>exact⟨k+1,by omega,by go_num,(by rw [e.out];exact H.tail:St Nope w _ _)⟩
     case measure=>simp [intOf];omega
  ·obtain rfl:k=n:=by omega
   rw [List.take_of_length_le (by omega)] at H
   go_wp2_with (first|(with_reducible refine Zac 24 ?_;refine Zaq 0 H rfl rfl ?_)|(with_reducible refine Zab 24 ?_;refine Zag 1 H rfl rfl rfl ?_;clear H;intro w' H))
   refine bodyPost_ret (Zaf rfl _ _ g1 _ rfl (ZaB (H.get 1 rfl))) rfl ?_
   exact⟨rfl,H.below⟩
end
section
open Go.ChangeShapes Go.WideShapes Go.ChangeAt Go.RowKit
theorem own:ownKnob Tryz.prog.godebug=none:=by kernel_rfl
theorem laidOut:laidOutB Tryz.prog=true:=by kernel_rfl
def laidAll:List (String × DataW Unit):=[("math/bits.deBruijn64tab",Rows.laid_math_bits_deBruijn64tab)]
theorem door_met (os:Os)(args:Array Value):laidMetH Tryz.prog laidAll ((World.doorLaid Tryz.prog 400 os).forCall (fun _ _=>0) ⟨#[],args,[]⟩).memory :=
 laidMetH_of_parts3 (fuel:=8) (laidMet_of_run' 8 (by kernel_rfl) (by kernel_rfl)) (by kernel_rfl) (by kernel_rfl)
theorem gTab:Tryz.prog.globalNamed "math/bits.deBruijn64tab"=some 0:=by kernel_rfl
noncomputable def tyTab:TypeId:=((Tryz.prog.globals[0]?).map (·.type)).getD 0
theorem tTab:(Tryz.prog.globals[0]?).map (·.type)=some tyTab:=by kernel_rfl
theorem uTab:Tryz.prog.underlying tyTab=some (.array 64 5):=by kernel_rfl
theorem facts_of_laid {W:World}(h:laidMetH Tryz.prog laidAll W):Tab W:=by
 rw [MakeChecks.laidMetH_plain _ _ _ (by kernel_rfl)] at h
 have hT:=Lib.tabIs_of_head (zs:=Lib.deBruijn64tab.map (fun (n:Nat)=>(n:Int))) gTab tTab uTab Tryz.underlying5 (by kernel_rfl) (by kernel_rfl) h
 intro i hi
 have:=hT.cell gTab i (by simpa [Lib.deBruijn64tab] using hi)
 rw [this]
 congr 2
 have e:Lib.deBruijn64tab[i]?=some Lib.deBruijn64tab[i]:=List.getElem?_eq_getElem (by simpa [Lib.deBruijn64tab] using hi)
 simp [List.getD,e]
end
section
open Go.RowKit
abbrev Rs:=S4 × Nat × Bool
def plR (s:ByteArray)(k:Nat):Rs:=if bt s k<32\/126<bt s k then (noSet,k,false) else (Zcn (bt s k).toNat (bt s k).toNat,k+1,true)
theorem ZgL (s:ByteArray)(k:Nat)(hk:k<=100000)(w:World){z:Int}(hz:z=(k:Int)):Calls Tryz.prog 175 #[.string s,.int .i64 z] w fun e w'=>e=.returned (.tuple #[Zbf (plR s k).1,.int .i64 ((plR s k).2.1:Int),.bool (plR s k).2.2])/\Below w.heap.size w w':=by
 subst hz
 have H:=St.start Nope w
 have hr:=Zdw s k
 unfold plR
 obtain⟨c,hc⟩:∃ c,bt s k=c:=⟨_,rfl⟩
 rw [hc] at hr ⊢
 replace hc:=Zaa hc
 by_cases h1:c<32
 ·rw [if_pos (.inl h1)]
  go_enter Tryz.func175,Tryz.ntmps175
  go_wp2_with (with_reducible refine Zae 24 ?_;refine Zak H ?_;clear H;intro g w' H q1 q2;clear q1 q2)
  refine (Zam s k _ rfl).mono ?_
  rintro e w1 ⟨rfl,rfl⟩
  rw [hc.out]
  go_wp2_with (with_reducible refine Zab 24 ?_;refine Zag 0 (s':=noSet) H rfl rfl rfl ?_;clear H;intro w' H)
  refine bodyPost_ret (Zaj rfl _ _ g _ rfl (ZaB (H.get 0 rfl))) rfl ?_
  exact⟨rfl,H.below⟩
 ·by_cases h2:126<c
  ·rw [if_pos (.inr h2)]
   go_enter Tryz.func175,Tryz.ntmps175
   go_wp2_with (with_reducible refine Zae 24 ?_;refine Zak H ?_;clear H;intro g w' H q1 q2;clear q1 q2)
   refine (Zam s k _ rfl).mono ?_
   rintro e w1 ⟨rfl,rfl⟩
   rw [hc.out]
   go_wp2_with (with_reducible refine Zab 24 ?_;refine Zag 0 (s':=noSet) H rfl rfl rfl ?_;clear H;intro w' H)
   refine bodyPost_ret (Zaj rfl _ _ g _ rfl (ZaB (H.get 0 rfl))) rfl ?_
   exact⟨rfl,H.below⟩
  ·rw [if_neg (by omega)]
   go_enter Tryz.func175,Tryz.ntmps175
   go_wp2_with (with_reducible refine Zae 24 ?_;refine Zak H ?_;clear H;intro g w' H q1 q2;clear q1 q2)
   refine (Zam s k _ rfl).mono ?_
   rintro e w1 ⟨rfl,rfl⟩
   rw [hc.out]
   go_wp2_with fail
   refine (ZaD c.toNat c.toNat (by omega) (by omega) _ (by omega) (by omega)).mono ?_
   rintro e w2 ⟨rfl,b2⟩
   replace H:=H.call b2 (Nat.le_refl _)
   go_wp2_with (with_reducible refine Zab 24 ?_;refine Zag 0 H rfl rfl rfl ?_;clear H;intro w' H)
   refine bodyPost_ret (Zaj rfl _ _ g _ rfl (ZaB (H.get 0 rfl))) rfl ?_
   exact⟨rfl,H.below⟩
def hexR (s:ByteArray)(k:Nat):Rs:=match hx (bt s k) with
 | none=>(noSet,k,false)
 | some h=>match hx (bt s (k+1)) with
  | none=>(noSet,k+1,false)
  | some l=>(Zcn (h * 16+l).toNat (h * 16+l).toNat,k+2,true)
theorem Zem {c h:Int}(e:hx c=some h):0<=h/\h<=15:=by
 unfold hx at e
 split at e
 ·cases e;omega
 ·split at e
  ·cases e;omega
  ·split at e
   ·cases e;omega
   ·cases e
theorem hex_any (s:ByteArray)(k:Nat)(hk:k<=100000)(w:World){z:Int}(hz:z=(k:Int)):Calls Tryz.prog 213 #[.string s,.int .i64 z] w fun e w'=>e=.returned (.tuple #[Zbf (hexR s k).1,.int .i64 ((hexR s k).2.1:Int),.bool (hexR s k).2.2])/\Below w.heap.size w w':=by
 subst hz
 have H:=St.start Nope w
 have D0:=Zaa (Zd9 (bt s k) (Zdw s k))
 have D1:=Zaa (Zd9 (bt s (k+1)) (Zdw s (k+1)))
 have r0:=Zaa (fun h=>Zem (c:=bt s k) (h:=h))
 have r1:=Zaa (fun h=>Zem (c:=bt s (k+1)) (h:=h))
 unfold hexR
 generalize hc:bt s k=c at D0 r0 ⊢
 generalize hd:bt s (k+1)=d at D1 r1 ⊢
 replace hc:=Zaa hc
 replace hd:=Zaa hd
 cases h0:hx c with
 | none =>
  rw [h0] at D0
  simp only [Option.getD_none,Option.isSome_none] at D0
  go_enter Tryz.func213,Tryz.ntmps213
  go_wp2_with (with_reducible refine Zae 24 ?_;refine Zak H ?_;clear H;intro g w' H q1 q2;clear q1 q2)
  refine (Zam s k _ rfl).mono ?_
  rintro e w1 ⟨rfl,rfl⟩
  rw [hc.out]
  go_wp2_with fail
  refine (D0.out _).mono ?_
  rintro e w1 ⟨rfl,rfl⟩
  go_wp2_with (with_reducible refine Zab 24 ?_;refine Zag 0 (s':=noSet) H rfl rfl rfl ?_;clear H;intro w' H)
  refine bodyPost_ret (Zaj rfl _ _ g _ rfl (ZaB (H.get 0 rfl))) rfl ?_
  exact⟨rfl,H.below⟩
 | some h =>
  rw [h0] at D0
  simp only [Option.getD_some,Option.isSome_some] at D0
  obtain⟨a1,a2⟩:=r0.out h h0
  clear r0 h0
  cases h1:hx d with
  | none =>
   rw [h1] at D1
   simp only [Option.getD_none,Option.isSome_none] at D1
   go_enter Tryz.func213,Tryz.ntmps213
   go_wp2_with (with_reducible refine Zae 24 ?_;refine Zak H ?_;clear H;intro g w' H q1 q2;clear q1 q2)
   refine (Zam s k _ rfl).mono ?_
   rintro e w1 ⟨rfl,rfl⟩
   rw [hc.out]
   go_wp2_with fail
   refine (D0.out _).mono ?_
   rintro e w1 ⟨rfl,rfl⟩
   go_wp2_with fail
   refine (Zam s (k+1) _ (by omega)).mono ?_
   rintro e w1 ⟨rfl,rfl⟩
   rw [hd.out]
   go_wp2_with fail
   refine (D1.out _).mono ?_
   rintro e w1 ⟨rfl,rfl⟩
   go_wp2_with (with_reducible refine Zab 24 ?_;refine Zag 0 (s':=noSet) H rfl rfl rfl ?_;clear H;intro w' H)
   refine bodyPost_ret (Zaj rfl _ _ g _ rfl (ZaB (H.get 0 rfl))) rfl ?_
   exact⟨rfl,H.below⟩
  | some l =>
   rw [h1] at D1
   simp only [Option.getD_some,Option.isSome_some] at D1
   obtain⟨c1,c2⟩:=r1.out l h1
   clear r1 h1
   have m1:h * 16 % 256=h * 16:=by omega
   have m2:(h * 16+l) % 256=h * 16+l:=by omega
   go_enter Tryz.func213,Tryz.ntmps213
   go_wp2_with (with_reducible refine Zae 24 ?_;refine Zak H ?_;clear H;intro g w' H q1 q2;clear q1 q2)
   refine (Zam s k _ rfl).mono ?_
   rintro e w1 ⟨rfl,rfl⟩
   rw [hc.out]
   go_wp2_with fail
   refine (D0.out _).mono ?_
   rintro e w1 ⟨rfl,rfl⟩
   go_wp2_with fail
   refine (Zam s (k+1) _ (by omega)).mono ?_
   rintro e w1 ⟨rfl,rfl⟩
   rw [hd.out]
   go_wp2_with fail
   refine (D1.out _).mono ?_
   rintro e w1 ⟨rfl,rfl⟩
   go_wp2_with fail
   refine (ZaD (h * 16+l).toNat (h * 16+l).toNat (by omega) (by omega) _ (by omega) (by omega)).mono ?_
   rintro e w2 ⟨rfl,b2⟩
   replace H:=H.call b2 (Nat.le_refl _)
   go_wp2_with (with_reducible refine Zab 24 ?_;refine Zag 0 H rfl rfl rfl ?_;clear H;intro w' H)
   refine bodyPost_ret (Zaj rfl _ _ g _ rfl (ZaB (H.get 0 rfl))) rfl ?_
   exact⟨rfl,H.below⟩
section
variable {S:Nat->Prop}{w0 w:World}{L:List Ent}{ops:Array Oper}{rest:List Oper}{a:Act}{Q:Exit->Act->World->Prop}{dst:Option Nat}{x y z u:Operand}{ty:TypeId}{pos:String}{after:Array Edge}
theorem ZfU {xs:Array Value}{w:World}{M:List S4}(hm:M.length<=1000)(h:∀ i,i<M.length->∀ q,q<4->xs[i * 4+q]?=some (.int .u64 ((M.getD i noSet).get q))):HasU (w.alloc (.cells xs 24)) (some ⟨w.heap.size,0,none⟩) M.length M :=
 ⟨rfl,hm,fun _=>⟨_,rfl,by simp,fun i hi q hq=>by rw [cell_of_row _ _ _ _ _ _ (heap_alloc_new w _)];exact h i hi q hq⟩⟩
theorem run_bs2 (s1 s2:S4)(w:World):(Instr.buildSlice 285 2 #[(0,Zbf s1),(1,Zbf s2)]).run Tryz.prog w=.ok (.slice (some ⟨w.heap.size,0,none⟩) 2 2) (w.alloc (.cells #[.int .u64 s1.a,.int .u64 s1.b,.int .u64 s1.c,.int .u64 s1.d,.int .u64 s2.a,.int .u64 s2.b,.int .u64 s2.c,.int .u64 s2.d] 24)):=by kernel_rfl
theorem run_bs3 (s1 s2 s3:S4)(w:World):(Instr.buildSlice 285 3 #[(0,Zbf s1),(1,Zbf s2),(2,Zbf s3)]).run Tryz.prog w=.ok (.slice (some ⟨w.heap.size,0,none⟩) 3 3) (w.alloc (.cells #[.int .u64 s1.a,.int .u64 s1.b,.int .u64 s1.c,.int .u64 s1.d,.int .u64 s2.a,.int .u64 s2.b,.int .u64 s2.c,.int .u64 s2.d,.int .u64 s3.a,.int .u64 s3.b,.int .u64 s3.c,.int .u64 s3.d] 24)):=by kernel_rfl
theorem run_bs4 (s1 s2 s3 s4:S4)(w:World):(Instr.buildSlice 285 4 #[(0,Zbf s1),(1,Zbf s2),(2,Zbf s3),(3,Zbf s4)]).run Tryz.prog w=.ok (.slice (some ⟨w.heap.size,0,none⟩) 4 4) (w.alloc (.cells #[.int .u64 s1.a,.int .u64 s1.b,.int .u64 s1.c,.int .u64 s1.d,.int .u64 s2.a,.int .u64 s2.b,.int .u64 s2.c,.int .u64 s2.d,.int .u64 s3.a,.int .u64 s3.b,.int .u64 s3.c,.int .u64 s3.d,.int .u64 s4.a,.int .u64 s4.b,.int .u64 s4.c,.int .u64 s4.d] 24)):=by kernel_rfl
theorem Zkh (n:Nat){ps:Array (Nat × Operand)}(h:wpList Tryz.prog ops Q (⟨dst,.buildSlice 285 n ps,ty,pos,after,none⟩::rest) a w):wpList Tryz.prog ops Q (⟨dst,.buildSlice 285 n ps,ty,pos,after,none⟩::rest) a w:=h
theorem wl_bs2 (H:St S w0 w L){s1 s2:S4}(hx:a.eval x=Zbf s1)(hy:a.eval y=Zbf s2)
  (k:∀ b w',St S w0 w' L->HasU w' (some ⟨b,0,none⟩) 2 [s1,s2]->wpList Tryz.prog ops Q rest (a.put dst (.slice (some ⟨b,0,none⟩) 2 2)) w'):wpList Tryz.prog ops Q (⟨dst,.buildSlice 285 2 #[(0,x),(1,y)],ty,pos,after,none⟩::rest) a w:=by
 refine wpList_plain rfl fun K hK=>?_
 unfold Oper.wp execOp
 simp only [List.map_toArray,List.map_cons,List.map_nil,hx,hy,Sem.run_bind,run_bs2,Result.andThen_ok,Sem.run_pure]
 refine hK _ _ (k _ _ ((H.alloc 24 _).tail) (ZfU (M:=[s1,s2]) (by simp) fun i hi q hq=>?_))
 rcases (show i=0\/i=1 by simp at hi;omega) with rfl|rfl <;> rcases (show q=0\/q=1\/q=2\/q=3 by omega) with rfl|rfl|rfl|rfl <;> rfl
theorem wl_bs3 (H:St S w0 w L){s1 s2 s3:S4}(hx:a.eval x=Zbf s1)(hy:a.eval y=Zbf s2)(hz:a.eval z=Zbf s3)
  (k:∀ b w',St S w0 w' L->HasU w' (some ⟨b,0,none⟩) 3 [s1,s2,s3]->wpList Tryz.prog ops Q rest (a.put dst (.slice (some ⟨b,0,none⟩) 3 3)) w'):wpList Tryz.prog ops Q (⟨dst,.buildSlice 285 3 #[(0,x),(1,y),(2,z)],ty,pos,after,none⟩::rest) a w:=by
 refine wpList_plain rfl fun K hK=>?_
 unfold Oper.wp execOp
 simp only [List.map_toArray,List.map_cons,List.map_nil,hx,hy,hz,Sem.run_bind,run_bs3,Result.andThen_ok,Sem.run_pure]
 refine hK _ _ (k _ _ ((H.alloc 24 _).tail) (ZfU (M:=[s1,s2,s3]) (by simp) fun i hi q hq=>?_))
 rcases (show i=0\/i=1\/i=2 by simp at hi;omega) with rfl|rfl|rfl <;> rcases (show q=0\/q=1\/q=2\/q=3 by omega) with rfl|rfl|rfl|rfl <;> rfl
theorem wl_bs4 (H:St S w0 w L){s1 s2 s3 s4:S4}(hx:a.eval x=Zbf s1)(hy:a.eval y=Zbf s2)(hz:a.eval z=Zbf s3)(hu:a.eval u=Zbf s4)
  (k:∀ b w',St S w0 w' L->HasU w' (some ⟨b,0,none⟩) 4 [s1,s2,s3,s4]->wpList Tryz.prog ops Q rest (a.put dst (.slice (some ⟨b,0,none⟩) 4 4)) w'):wpList Tryz.prog ops Q (⟨dst,.buildSlice 285 4 #[(0,x),(1,y),(2,z),(3,u)],ty,pos,after,none⟩::rest) a w:=by
 refine wpList_plain rfl fun K hK=>?_
 unfold Oper.wp execOp
 simp only [List.map_toArray,List.map_cons,List.map_nil,hx,hy,hz,hu,Sem.run_bind,run_bs4,Result.andThen_ok,Sem.run_pure]
 refine hK _ _ (k _ _ ((H.alloc 24 _).tail) (ZfU (M:=[s1,s2,s3,s4]) (by simp) fun i hi q hq=>?_))
 rcases (show i=0\/i=1\/i=2\/i=3 by simp at hi;omega) with rfl|rfl|rfl|rfl <;> rcases (show q=0\/q=1\/q=2\/q=3 by omega) with rfl|rfl|rfl|rfl <;> rfl
end
def Zld:S4:=uni [Zcn 65 90,Zcn 97 122,Zcn 48 57,Zcn 95 95]
def ZgM:S4:=uni [Zcn 9 10,Zcn 12 13,Zcn 32 32]
def Zle:List Int:=[92,46,91,93,40,41,42,43,63,123,125,94,36,45,47,124]
def esc (c:Int):Option S4 :=
 if c ∈ Zle then some (Zcn c.toNat c.toNat)
 else if c=110 then some (Zcn 10 10)
 else if c=116 then some (Zcn 9 9)
 else if c=68 then some (oth (Zcn 48 57))
 else if c=100 then some (Zcn 48 57)
 else if c=87 then some (oth Zld)
 else if c=119 then some Zld
 else if c=83 then some (oth ZgM)
 else if c=115 then some ZgM
 else none
theorem esc_92 (w:World):Calls Tryz.prog 214 #[.int .u8 92] w fun e w'=>e=.returned (.tuple #[Zbf (Zcn 92 92),.bool true])/\Below w.heap.size w w':=by
 have H:=St.start Nope w
 go_enter Tryz.func214,Tryz.ntmps214
 go_wp2_with (with_reducible refine Zae 24 ?_;refine Zak H ?_;clear H;intro g w' H q1 q2;clear q1 q2)
 refine (ZaD 92 92 (by omega) (by omega) _ (by rfl) (by rfl)).mono ?_
 rintro e w2 ⟨rfl,b2⟩
 replace H:=H.call b2 (Nat.le_refl _)
 go_wp2_with (first|(with_reducible refine Zab 24 ?_;refine Zag 0 H rfl rfl rfl ?_;clear H;intro w' H)|(with_reducible refine Zac 24 ?_;refine Zaq 0 H rfl rfl ?_))
 refine bodyPost_ret (Zat rfl _ _ g _ rfl (ZaB (H.get 0 rfl))) rfl ?_
 exact⟨rfl,H.below⟩
theorem esc_46 (w:World):Calls Tryz.prog 214 #[.int .u8 46] w fun e w'=>e=.returned (.tuple #[Zbf (Zcn 46 46),.bool true])/\Below w.heap.size w w':=by
 have H:=St.start Nope w
 go_enter Tryz.func214,Tryz.ntmps214
 go_wp2_with (with_reducible refine Zae 24 ?_;refine Zak H ?_;clear H;intro g w' H q1 q2;clear q1 q2)
 refine (ZaD 46 46 (by omega) (by omega) _ (by rfl) (by rfl)).mono ?_
 rintro e w2 ⟨rfl,b2⟩
 replace H:=H.call b2 (Nat.le_refl _)
 go_wp2_with (first|(with_reducible refine Zab 24 ?_;refine Zag 0 H rfl rfl rfl ?_;clear H;intro w' H)|(with_reducible refine Zac 24 ?_;refine Zaq 0 H rfl rfl ?_))
 refine bodyPost_ret (Zat rfl _ _ g _ rfl (ZaB (H.get 0 rfl))) rfl ?_
 exact⟨rfl,H.below⟩
theorem esc_91 (w:World):Calls Tryz.prog 214 #[.int .u8 91] w fun e w'=>e=.returned (.tuple #[Zbf (Zcn 91 91),.bool true])/\Below w.heap.size w w':=by
 have H:=St.start Nope w
 go_enter Tryz.func214,Tryz.ntmps214
 go_wp2_with (with_reducible refine Zae 24 ?_;refine Zak H ?_;clear H;intro g w' H q1 q2;clear q1 q2)
 refine (ZaD 91 91 (by omega) (by omega) _ (by rfl) (by rfl)).mono ?_
 rintro e w2 ⟨rfl,b2⟩
 replace H:=H.call b2 (Nat.le_refl _)
 go_wp2_with (first|(with_reducible refine Zab 24 ?_;refine Zag 0 H rfl rfl rfl ?_;clear H;intro w' H)|(with_reducible refine Zac 24 ?_;refine Zaq 0 H rfl rfl ?_))
 refine bodyPost_ret (Zat rfl _ _ g _ rfl (ZaB (H.get 0 rfl))) rfl ?_
 exact⟨rfl,H.below⟩
theorem esc_93 (w:World):Calls Tryz.prog 214 #[.int .u8 93] w fun e w'=>e=.returned (.tuple #[Zbf (Zcn 93 93),.bool true])/\Below w.heap.size w w':=by
 have H:=St.start Nope w
 go_enter Tryz.func214,Tryz.ntmps214
 go_wp2_with (with_reducible refine Zae 24 ?_;refine Zak H ?_;clear H;intro g w' H q1 q2;clear q1 q2)
 refine (ZaD 93 93 (by omega) (by omega) _ (by rfl) (by rfl)).mono ?_
 rintro e w2 ⟨rfl,b2⟩
 replace H:=H.call b2 (Nat.le_refl _)
 go_wp2_with (first|(with_reducible refine Zab 24 ?_;refine Zag 0 H rfl rfl rfl ?_;clear H;intro w' H)|(with_reducible refine Zac 24 ?_;refine Zaq 0 H rfl rfl ?_))
 refine bodyPost_ret (Zat rfl _ _ g _ rfl (ZaB (H.get 0 rfl))) rfl ?_
 exact⟨rfl,H.below⟩
theorem esc_40 (w:World):Calls Tryz.prog 214 #[.int .u8 40] w fun e w'=>e=.returned (.tuple #[Zbf (Zcn 40 40),.bool true])/\Below w.heap.size w w':=by
 have H:=St.start Nope w
 go_enter Tryz.func214,Tryz.ntmps214
 go_wp2_with (with_reducible refine Zae 24 ?_;refine Zak H ?_;clear H;intro g w' H q1 q2;clear q1 q2)
 refine (ZaD 40 40 (by omega) (by omega) _ (by rfl) (by rfl)).mono ?_
 rintro e w2 ⟨rfl,b2⟩
 replace H:=H.call b2 (Nat.le_refl _)
 go_wp2_with (first|(with_reducible refine Zab 24 ?_;refine Zag 0 H rfl rfl rfl ?_;clear H;intro w' H)|(with_reducible refine Zac 24 ?_;refine Zaq 0 H rfl rfl ?_))
 refine bodyPost_ret (Zat rfl _ _ g _ rfl (ZaB (H.get 0 rfl))) rfl ?_
 exact⟨rfl,H.below⟩
theorem esc_41 (w:World):Calls Tryz.prog 214 #[.int .u8 41] w fun e w'=>e=.returned (.tuple #[Zbf (Zcn 41 41),.bool true])/\Below w.heap.size w w':=by
 have H:=St.start Nope w
 go_enter Tryz.func214,Tryz.ntmps214
 go_wp2_with (with_reducible refine Zae 24 ?_;refine Zak H ?_;clear H;intro g w' H q1 q2;clear q1 q2)
 refine (ZaD 41 41 (by omega) (by omega) _ (by rfl) (by rfl)).mono ?_
 rintro e w2 ⟨rfl,b2⟩
 replace H:=H.call b2 (Nat.le_refl _)
 go_wp2_with (first|(with_reducible refine Zab 24 ?_;refine Zag 0 H rfl rfl rfl ?_;clear H;intro w' H)|(with_reducible refine Zac 24 ?_;refine Zaq 0 H rfl rfl ?_))
 refine bodyPost_ret (Zat rfl _ _ g _ rfl (ZaB (H.get 0 rfl))) rfl ?_
 exact⟨rfl,H.below⟩
theorem esc_42 (w:World):Calls Tryz.prog 214 #[.int .u8 42] w fun e w'=>e=.returned (.tuple #[Zbf (Zcn 42 42),.bool true])/\Below w.heap.size w w':=by
 have H:=St.start Nope w
 go_enter Tryz.func214,Tryz.ntmps214
 go_wp2_with (with_reducible refine Zae 24 ?_;refine Zak H ?_;clear H;intro g w' H q1 q2;clear q1 q2)
 refine (ZaD 42 42 (by omega) (by omega) _ (by rfl) (by rfl)).mono ?_
 rintro e w2 ⟨rfl,b2⟩
 replace H:=H.call b2 (Nat.le_refl _)
 go_wp2_with (first|(with_reducible refine Zab 24 ?_;refine Zag 0 H rfl rfl rfl ?_;clear H;intro w' H)|(with_reducible refine Zac 24 ?_;refine Zaq 0 H rfl rfl ?_))
 refine bodyPost_ret (Zat rfl _ _ g _ rfl (ZaB (H.get 0 rfl))) rfl ?_
 exact⟨rfl,H.below⟩
theorem esc_43 (w:World):Calls Tryz.prog 214 #[.int .u8 43] w fun e w'=>e=.returned (.tuple #[Zbf (Zcn 43 43),.bool true])/\Below w.heap.size w w':=by
 have H:=St.start Nope w
 go_enter Tryz.func214,Tryz.ntmps214
 go_wp2_with (with_reducible refine Zae 24 ?_;refine Zak H ?_;clear H;intro g w' H q1 q2;clear q1 q2)
 refine (ZaD 43 43 (by omega) (by omega) _ (by rfl) (by rfl)).mono ?_
 rintro e w2 ⟨rfl,b2⟩
 replace H:=H.call b2 (Nat.le_refl _)
 go_wp2_with (first|(with_reducible refine Zab 24 ?_;refine Zag 0 H rfl rfl rfl ?_;clear H;intro w' H)|(with_reducible refine Zac 24 ?_;refine Zaq 0 H rfl rfl ?_))
 refine bodyPost_ret (Zat rfl _ _ g _ rfl (ZaB (H.get 0 rfl))) rfl ?_
 exact⟨rfl,H.below⟩
theorem esc_63 (w:World):Calls Tryz.prog 214 #[.int .u8 63] w fun e w'=>e=.returned (.tuple #[Zbf (Zcn 63 63),.bool true])/\Below w.heap.size w w':=by
 have H:=St.start Nope w
 go_enter Tryz.func214,Tryz.ntmps214
 go_wp2_with (with_reducible refine Zae 24 ?_;refine Zak H ?_;clear H;intro g w' H q1 q2;clear q1 q2)
 refine (ZaD 63 63 (by omega) (by omega) _ (by rfl) (by rfl)).mono ?_
 rintro e w2 ⟨rfl,b2⟩
 replace H:=H.call b2 (Nat.le_refl _)
 go_wp2_with (first|(with_reducible refine Zab 24 ?_;refine Zag 0 H rfl rfl rfl ?_;clear H;intro w' H)|(with_reducible refine Zac 24 ?_;refine Zaq 0 H rfl rfl ?_))
 refine bodyPost_ret (Zat rfl _ _ g _ rfl (ZaB (H.get 0 rfl))) rfl ?_
 exact⟨rfl,H.below⟩
theorem esc_123 (w:World):Calls Tryz.prog 214 #[.int .u8 123] w fun e w'=>e=.returned (.tuple #[Zbf (Zcn 123 123),.bool true])/\Below w.heap.size w w':=by
 have H:=St.start Nope w
 go_enter Tryz.func214,Tryz.ntmps214
 go_wp2_with (with_reducible refine Zae 24 ?_;refine Zak H ?_;clear H;intro g w' H q1 q2;clear q1 q2)
 refine (ZaD 123 123 (by omega) (by omega) _ (by rfl) (by rfl)).mono ?_
 rintro e w2 ⟨rfl,b2⟩
 replace H:=H.call b2 (Nat.le_refl _)
 go_wp2_with (first|(with_reducible refine Zab 24 ?_;refine Zag 0 H rfl rfl rfl ?_;clear H;intro w' H)|(with_reducible refine Zac 24 ?_;refine Zaq 0 H rfl rfl ?_))
 refine bodyPost_ret (Zat rfl _ _ g _ rfl (ZaB (H.get 0 rfl))) rfl ?_
 exact⟨rfl,H.below⟩
theorem esc_125 (w:World):Calls Tryz.prog 214 #[.int .u8 125] w fun e w'=>e=.returned (.tuple #[Zbf (Zcn 125 125),.bool true])/\Below w.heap.size w w':=by
 have H:=St.start Nope w
 go_enter Tryz.func214,Tryz.ntmps214
 go_wp2_with (with_reducible refine Zae 24 ?_;refine Zak H ?_;clear H;intro g w' H q1 q2;clear q1 q2)
 refine (ZaD 125 125 (by omega) (by omega) _ (by rfl) (by rfl)).mono ?_
 rintro e w2 ⟨rfl,b2⟩
 replace H:=H.call b2 (Nat.le_refl _)
 go_wp2_with (first|(with_reducible refine Zab 24 ?_;refine Zag 0 H rfl rfl rfl ?_;clear H;intro w' H)|(with_reducible refine Zac 24 ?_;refine Zaq 0 H rfl rfl ?_))
 refine bodyPost_ret (Zat rfl _ _ g _ rfl (ZaB (H.get 0 rfl))) rfl ?_
 exact⟨rfl,H.below⟩
theorem esc_94 (w:World):Calls Tryz.prog 214 #[.int .u8 94] w fun e w'=>e=.returned (.tuple #[Zbf (Zcn 94 94),.bool true])/\Below w.heap.size w w':=by
 have H:=St.start Nope w
 go_enter Tryz.func214,Tryz.ntmps214
 go_wp2_with (with_reducible refine Zae 24 ?_;refine Zak H ?_;clear H;intro g w' H q1 q2;clear q1 q2)
 refine (ZaD 94 94 (by omega) (by omega) _ (by rfl) (by rfl)).mono ?_
 rintro e w2 ⟨rfl,b2⟩
 replace H:=H.call b2 (Nat.le_refl _)
 go_wp2_with (first|(with_reducible refine Zab 24 ?_;refine Zag 0 H rfl rfl rfl ?_;clear H;intro w' H)|(with_reducible refine Zac 24 ?_;refine Zaq 0 H rfl rfl ?_))
 refine bodyPost_ret (Zat rfl _ _ g _ rfl (ZaB (H.get 0 rfl))) rfl ?_
 exact⟨rfl,H.below⟩
theorem esc_36 (w:World):Calls Tryz.prog 214 #[.int .u8 36] w fun e w'=>e=.returned (.tuple #[Zbf (Zcn 36 36),.bool true])/\Below w.heap.size w w':=by
 have H:=St.start Nope w
 go_enter Tryz.func214,Tryz.ntmps214
 go_wp2_with (with_reducible refine Zae 24 ?_;refine Zak H ?_;clear H;intro g w' H q1 q2;clear q1 q2)
 refine (ZaD 36 36 (by omega) (by omega) _ (by rfl) (by rfl)).mono ?_
 rintro e w2 ⟨rfl,b2⟩
 replace H:=H.call b2 (Nat.le_refl _)
 go_wp2_with (first|(with_reducible refine Zab 24 ?_;refine Zag 0 H rfl rfl rfl ?_;clear H;intro w' H)|(with_reducible refine Zac 24 ?_;refine Zaq 0 H rfl rfl ?_))
 refine bodyPost_ret (Zat rfl _ _ g _ rfl (ZaB (H.get 0 rfl))) rfl ?_
 exact⟨rfl,H.below⟩
theorem esc_45 (w:World):Calls Tryz.prog 214 #[.int .u8 45] w fun e w'=>e=.returned (.tuple #[Zbf (Zcn 45 45),.bool true])/\Below w.heap.size w w':=by
 have H:=St.start Nope w
 go_enter Tryz.func214,Tryz.ntmps214
 go_wp2_with (with_reducible refine Zae 24 ?_;refine Zak H ?_;clear H;intro g w' H q1 q2;clear q1 q2)
 refine (ZaD 45 45 (by omega) (by omega) _ (by rfl) (by rfl)).mono ?_
 rintro e w2 ⟨rfl,b2⟩
 replace H:=H.call b2 (Nat.le_refl _)
 go_wp2_with (first|(with_reducible refine Zab 24 ?_;refine Zag 0 H rfl rfl rfl ?_;clear H;intro w' H)|(with_reducible refine Zac 24 ?_;refine Zaq 0 H rfl rfl ?_))
 refine bodyPost_ret (Zat rfl _ _ g _ rfl (ZaB (H.get 0 rfl))) rfl ?_
 exact⟨rfl,H.below⟩
theorem esc_47 (w:World):Calls Tryz.prog 214 #[.int .u8 47] w fun e w'=>e=.returned (.tuple #[Zbf (Zcn 47 47),.bool true])/\Below w.heap.size w w':=by
 have H:=St.start Nope w
 go_enter Tryz.func214,Tryz.ntmps214
 go_wp2_with (with_reducible refine Zae 24 ?_;refine Zak H ?_;clear H;intro g w' H q1 q2;clear q1 q2)
 refine (ZaD 47 47 (by omega) (by omega) _ (by rfl) (by rfl)).mono ?_
 rintro e w2 ⟨rfl,b2⟩
 replace H:=H.call b2 (Nat.le_refl _)
 go_wp2_with (first|(with_reducible refine Zab 24 ?_;refine Zag 0 H rfl rfl rfl ?_;clear H;intro w' H)|(with_reducible refine Zac 24 ?_;refine Zaq 0 H rfl rfl ?_))
 refine bodyPost_ret (Zat rfl _ _ g _ rfl (ZaB (H.get 0 rfl))) rfl ?_
 exact⟨rfl,H.below⟩
theorem esc_124 (w:World):Calls Tryz.prog 214 #[.int .u8 124] w fun e w'=>e=.returned (.tuple #[Zbf (Zcn 124 124),.bool true])/\Below w.heap.size w w':=by
 have H:=St.start Nope w
 go_enter Tryz.func214,Tryz.ntmps214
 go_wp2_with (with_reducible refine Zae 24 ?_;refine Zak H ?_;clear H;intro g w' H q1 q2;clear q1 q2)
 refine (ZaD 124 124 (by omega) (by omega) _ (by rfl) (by rfl)).mono ?_
 rintro e w2 ⟨rfl,b2⟩
 replace H:=H.call b2 (Nat.le_refl _)
 go_wp2_with (first|(with_reducible refine Zab 24 ?_;refine Zag 0 H rfl rfl rfl ?_;clear H;intro w' H)|(with_reducible refine Zac 24 ?_;refine Zaq 0 H rfl rfl ?_))
 refine bodyPost_ret (Zat rfl _ _ g _ rfl (ZaB (H.get 0 rfl))) rfl ?_
 exact⟨rfl,H.below⟩
theorem esc_110 (w:World):Calls Tryz.prog 214 #[.int .u8 110] w fun e w'=>e=.returned (.tuple #[Zbf (Zcn 10 10),.bool true])/\Below w.heap.size w w':=by
 have H:=St.start Nope w
 go_enter Tryz.func214,Tryz.ntmps214
 go_wp2_with (with_reducible refine Zae 24 ?_;refine Zak H ?_;clear H;intro g w' H q1 q2;clear q1 q2)
 refine (ZaD 10 10 (by omega) (by omega) _ (by rfl) (by rfl)).mono ?_
 rintro e w2 ⟨rfl,b2⟩
 replace H:=H.call b2 (Nat.le_refl _)
 go_wp2_with (first|(with_reducible refine Zab 24 ?_;refine Zag 0 H rfl rfl rfl ?_;clear H;intro w' H)|(with_reducible refine Zac 24 ?_;refine Zaq 0 H rfl rfl ?_))
 refine bodyPost_ret (Zat rfl _ _ g _ rfl (ZaB (H.get 0 rfl))) rfl ?_
 exact⟨rfl,H.below⟩
theorem esc_116 (w:World):Calls Tryz.prog 214 #[.int .u8 116] w fun e w'=>e=.returned (.tuple #[Zbf (Zcn 9 9),.bool true])/\Below w.heap.size w w':=by
 have H:=St.start Nope w
 go_enter Tryz.func214,Tryz.ntmps214
 go_wp2_with (with_reducible refine Zae 24 ?_;refine Zak H ?_;clear H;intro g w' H q1 q2;clear q1 q2)
 refine (ZaD 9 9 (by omega) (by omega) _ (by rfl) (by rfl)).mono ?_
 rintro e w2 ⟨rfl,b2⟩
 replace H:=H.call b2 (Nat.le_refl _)
 go_wp2_with (first|(with_reducible refine Zab 24 ?_;refine Zag 0 H rfl rfl rfl ?_;clear H;intro w' H)|(with_reducible refine Zac 24 ?_;refine Zaq 0 H rfl rfl ?_))
 refine bodyPost_ret (Zat rfl _ _ g _ rfl (ZaB (H.get 0 rfl))) rfl ?_
 exact⟨rfl,H.below⟩
theorem esc_68 (w:World):Calls Tryz.prog 214 #[.int .u8 68] w fun e w'=>e=.returned (.tuple #[Zbf (oth (Zcn 48 57)),.bool true])/\Below w.heap.size w w':=by
 have H:=St.start Nope w
 go_enter Tryz.func214,Tryz.ntmps214
 go_wp2_with (with_reducible refine Zae 24 ?_;refine Zak H ?_;clear H;intro g w' H q1 q2;clear q1 q2)
 refine (ZaD 48 57 (by omega) (by omega) _ (by rfl) (by rfl)).mono ?_
 rintro e w2 ⟨rfl,b2⟩
 replace H:=H.call b2 (Nat.le_refl _)
 go_wp2_with (first|(with_reducible refine Zab 24 ?_;refine Zag 0 H rfl rfl rfl ?_;clear H;intro w' H)|(with_reducible refine Zac 24 ?_;refine Zaq 0 H rfl rfl ?_))
 refine (Zco _ _).mono ?_
 rintro e w3 ⟨rfl,b3⟩
 replace H:=H.call b3 (Nat.le_refl _)
 go_wp2_with (first|(with_reducible refine Zab 24 ?_;refine Zag 0 H rfl rfl rfl ?_;clear H;intro w' H)|(with_reducible refine Zac 24 ?_;refine Zaq 0 H rfl rfl ?_))
 refine bodyPost_ret (Zat rfl _ _ g _ rfl (ZaB (H.get 0 rfl))) rfl ?_
 exact⟨rfl,H.below⟩
theorem esc_100 (w:World):Calls Tryz.prog 214 #[.int .u8 100] w fun e w'=>e=.returned (.tuple #[Zbf (Zcn 48 57),.bool true])/\Below w.heap.size w w':=by
 have H:=St.start Nope w
 go_enter Tryz.func214,Tryz.ntmps214
 go_wp2_with (with_reducible refine Zae 24 ?_;refine Zak H ?_;clear H;intro g w' H q1 q2;clear q1 q2)
 refine (ZaD 48 57 (by omega) (by omega) _ (by rfl) (by rfl)).mono ?_
 rintro e w2 ⟨rfl,b2⟩
 replace H:=H.call b2 (Nat.le_refl _)
 go_wp2_with (first|(with_reducible refine Zab 24 ?_;refine Zag 0 H rfl rfl rfl ?_;clear H;intro w' H)|(with_reducible refine Zac 24 ?_;refine Zaq 0 H rfl rfl ?_))
 refine bodyPost_ret (Zat rfl _ _ g _ rfl (ZaB (H.get 0 rfl))) rfl ?_
 exact⟨rfl,H.below⟩
theorem esc_87 (w:World):Calls Tryz.prog 214 #[.int .u8 87] w fun e w'=>e=.returned (.tuple #[Zbf (oth Zld),.bool true])/\Below w.heap.size w w':=by
 have H:=St.start Nope w
 go_enter Tryz.func214,Tryz.ntmps214
 go_wp2_with (with_reducible refine Zae 24 ?_;refine Zak H ?_;clear H;intro g w' H q1 q2;clear q1 q2)
 refine (ZaD 65 90 (by omega) (by omega) _ (by rfl) (by rfl)).mono ?_
 rintro e w2 ⟨rfl,b2⟩
 replace H:=H.call b2 (Nat.le_refl _)
 go_wp2_with fail
 refine (ZaD 97 122 (by omega) (by omega) _ (by rfl) (by rfl)).mono ?_
 rintro e w2 ⟨rfl,b2⟩
 replace H:=H.call b2 (Nat.le_refl _)
 go_wp2_with fail
 refine (ZaD 48 57 (by omega) (by omega) _ (by rfl) (by rfl)).mono ?_
 rintro e w2 ⟨rfl,b2⟩
 replace H:=H.call b2 (Nat.le_refl _)
 go_wp2_with fail
 refine (ZaD 95 95 (by omega) (by omega) _ (by rfl) (by rfl)).mono ?_
 rintro e w2 ⟨rfl,b2⟩
 replace H:=H.call b2 (Nat.le_refl _)
 go_wp2_with (with_reducible refine Zkh 4 ?_;refine wl_bs4 H rfl rfl rfl rfl ?_;clear H;intro b w' H HU)
 refine (Zcp _ _ _ _ HU).mono ?_
 rintro e w4 ⟨rfl,b4⟩
 replace H:=H.call b4 (Nat.le_refl _)
 clear HU
 go_wp2_with (first|(with_reducible refine Zab 24 ?_;refine Zag 0 H rfl rfl rfl ?_;clear H;intro w' H)|(with_reducible refine Zac 24 ?_;refine Zaq 0 H rfl rfl ?_))
 refine (Zco _ _).mono ?_
 rintro e w3 ⟨rfl,b3⟩
 replace H:=H.call b3 (Nat.le_refl _)
 go_wp2_with (first|(with_reducible refine Zab 24 ?_;refine Zag 0 H rfl rfl rfl ?_;clear H;intro w' H)|(with_reducible refine Zac 24 ?_;refine Zaq 0 H rfl rfl ?_))
 refine bodyPost_ret (Zat rfl _ _ g _ rfl (ZaB (H.get 0 rfl))) rfl ?_
 exact⟨rfl,H.below⟩
theorem esc_119 (w:World):Calls Tryz.prog 214 #[.int .u8 119] w fun e w'=>e=.returned (.tuple #[Zbf (Zld),.bool true])/\Below w.heap.size w w':=by
 have H:=St.start Nope w
 go_enter Tryz.func214,Tryz.ntmps214
 go_wp2_with (with_reducible refine Zae 24 ?_;refine Zak H ?_;clear H;intro g w' H q1 q2;clear q1 q2)
 refine (ZaD 65 90 (by omega) (by omega) _ (by rfl) (by rfl)).mono ?_
 rintro e w2 ⟨rfl,b2⟩
 replace H:=H.call b2 (Nat.le_refl _)
 go_wp2_with fail
 refine (ZaD 97 122 (by omega) (by omega) _ (by rfl) (by rfl)).mono ?_
 rintro e w2 ⟨rfl,b2⟩
 replace H:=H.call b2 (Nat.le_refl _)
 go_wp2_with fail
 refine (ZaD 48 57 (by omega) (by omega) _ (by rfl) (by rfl)).mono ?_
 rintro e w2 ⟨rfl,b2⟩
 replace H:=H.call b2 (Nat.le_refl _)
 go_wp2_with fail
 refine (ZaD 95 95 (by omega) (by omega) _ (by rfl) (by rfl)).mono ?_
 rintro e w2 ⟨rfl,b2⟩
 replace H:=H.call b2 (Nat.le_refl _)
 go_wp2_with (with_reducible refine Zkh 4 ?_;refine wl_bs4 H rfl rfl rfl rfl ?_;clear H;intro b w' H HU)
 refine (Zcp _ _ _ _ HU).mono ?_
 rintro e w4 ⟨rfl,b4⟩
 replace H:=H.call b4 (Nat.le_refl _)
 clear HU
 go_wp2_with (first|(with_reducible refine Zab 24 ?_;refine Zag 0 H rfl rfl rfl ?_;clear H;intro w' H)|(with_reducible refine Zac 24 ?_;refine Zaq 0 H rfl rfl ?_))
 refine bodyPost_ret (Zat rfl _ _ g _ rfl (ZaB (H.get 0 rfl))) rfl ?_
 exact⟨rfl,H.below⟩
theorem esc_83 (w:World):Calls Tryz.prog 214 #[.int .u8 83] w fun e w'=>e=.returned (.tuple #[Zbf (oth ZgM),.bool true])/\Below w.heap.size w w':=by
 have H:=St.start Nope w
 go_enter Tryz.func214,Tryz.ntmps214
 go_wp2_with (with_reducible refine Zae 24 ?_;refine Zak H ?_;clear H;intro g w' H q1 q2;clear q1 q2)
 refine (ZaD 9 10 (by omega) (by omega) _ (by rfl) (by rfl)).mono ?_
 rintro e w2 ⟨rfl,b2⟩
 replace H:=H.call b2 (Nat.le_refl _)
 go_wp2_with fail
 refine (ZaD 12 13 (by omega) (by omega) _ (by rfl) (by rfl)).mono ?_
 rintro e w2 ⟨rfl,b2⟩
 replace H:=H.call b2 (Nat.le_refl _)
 go_wp2_with fail
 refine (ZaD 32 32 (by omega) (by omega) _ (by rfl) (by rfl)).mono ?_
 rintro e w2 ⟨rfl,b2⟩
 replace H:=H.call b2 (Nat.le_refl _)
 go_wp2_with (with_reducible refine Zkh 3 ?_;refine wl_bs3 H rfl rfl rfl ?_;clear H;intro b w' H HU)
 refine (Zcp _ _ _ _ HU).mono ?_
 rintro e w4 ⟨rfl,b4⟩
 replace H:=H.call b4 (Nat.le_refl _)
 clear HU
 go_wp2_with (first|(with_reducible refine Zab 24 ?_;refine Zag 0 H rfl rfl rfl ?_;clear H;intro w' H)|(with_reducible refine Zac 24 ?_;refine Zaq 0 H rfl rfl ?_))
 refine (Zco _ _).mono ?_
 rintro e w3 ⟨rfl,b3⟩
 replace H:=H.call b3 (Nat.le_refl _)
 go_wp2_with (first|(with_reducible refine Zab 24 ?_;refine Zag 0 H rfl rfl rfl ?_;clear H;intro w' H)|(with_reducible refine Zac 24 ?_;refine Zaq 0 H rfl rfl ?_))
 refine bodyPost_ret (Zat rfl _ _ g _ rfl (ZaB (H.get 0 rfl))) rfl ?_
 exact⟨rfl,H.below⟩
theorem esc_115 (w:World):Calls Tryz.prog 214 #[.int .u8 115] w fun e w'=>e=.returned (.tuple #[Zbf (ZgM),.bool true])/\Below w.heap.size w w':=by
 have H:=St.start Nope w
 go_enter Tryz.func214,Tryz.ntmps214
 go_wp2_with (with_reducible refine Zae 24 ?_;refine Zak H ?_;clear H;intro g w' H q1 q2;clear q1 q2)
 refine (ZaD 9 10 (by omega) (by omega) _ (by rfl) (by rfl)).mono ?_
 rintro e w2 ⟨rfl,b2⟩
 replace H:=H.call b2 (Nat.le_refl _)
 go_wp2_with fail
 refine (ZaD 12 13 (by omega) (by omega) _ (by rfl) (by rfl)).mono ?_
 rintro e w2 ⟨rfl,b2⟩
 replace H:=H.call b2 (Nat.le_refl _)
 go_wp2_with fail
 refine (ZaD 32 32 (by omega) (by omega) _ (by rfl) (by rfl)).mono ?_
 rintro e w2 ⟨rfl,b2⟩
 replace H:=H.call b2 (Nat.le_refl _)
 go_wp2_with (with_reducible refine Zkh 3 ?_;refine wl_bs3 H rfl rfl rfl ?_;clear H;intro b w' H HU)
 refine (Zcp _ _ _ _ HU).mono ?_
 rintro e w4 ⟨rfl,b4⟩
 replace H:=H.call b4 (Nat.le_refl _)
 clear HU
 go_wp2_with (first|(with_reducible refine Zab 24 ?_;refine Zag 0 H rfl rfl rfl ?_;clear H;intro w' H)|(with_reducible refine Zac 24 ?_;refine Zaq 0 H rfl rfl ?_))
 refine bodyPost_ret (Zat rfl _ _ g _ rfl (ZaB (H.get 0 rfl))) rfl ?_
 exact⟨rfl,H.below⟩
theorem esc_none (c:Int)(n92:¬ c=92)(n46:¬ c=46)(n91:¬ c=91)(n93:¬ c=93)(n40:¬ c=40)(n41:¬ c=41)(n42:¬ c=42)(n43:¬ c=43)(n63:¬ c=63)(n123:¬ c=123)(n125:¬ c=125)(n94:¬ c=94)(n36:¬ c=36)(n45:¬ c=45)(n47:¬ c=47)(n124:¬ c=124)(n110:¬ c=110)(n116:¬ c=116)(n68:¬ c=68)(n100:¬ c=100)(n87:¬ c=87)(n119:¬ c=119)(n83:¬ c=83)(n115:¬ c=115)(w:World):Calls Tryz.prog 214 #[.int .u8 c] w fun e w'=>e=.returned (.tuple #[Zbf (noSet),.bool false])/\Below w.heap.size w w':=by
 have H:=St.start Nope w
 have k92:(c == 92)=false:=beq_eq_false_iff_ne.2 n92
 have k46:(c == 46)=false:=beq_eq_false_iff_ne.2 n46
 have k91:(c == 91)=false:=beq_eq_false_iff_ne.2 n91
 have k93:(c == 93)=false:=beq_eq_false_iff_ne.2 n93
 have k40:(c == 40)=false:=beq_eq_false_iff_ne.2 n40
 have k41:(c == 41)=false:=beq_eq_false_iff_ne.2 n41
 have k42:(c == 42)=false:=beq_eq_false_iff_ne.2 n42
 have k43:(c == 43)=false:=beq_eq_false_iff_ne.2 n43
 have k63:(c == 63)=false:=beq_eq_false_iff_ne.2 n63
 have k123:(c == 123)=false:=beq_eq_false_iff_ne.2 n123
 have k125:(c == 125)=false:=beq_eq_false_iff_ne.2 n125
 have k94:(c == 94)=false:=beq_eq_false_iff_ne.2 n94
 have k36:(c == 36)=false:=beq_eq_false_iff_ne.2 n36
 have k45:(c == 45)=false:=beq_eq_false_iff_ne.2 n45
 have k47:(c == 47)=false:=beq_eq_false_iff_ne.2 n47
 have k124:(c == 124)=false:=beq_eq_false_iff_ne.2 n124
 have k110:(c == 110)=false:=beq_eq_false_iff_ne.2 n110
 have k116:(c == 116)=false:=beq_eq_false_iff_ne.2 n116
 have k68:(c == 68)=false:=beq_eq_false_iff_ne.2 n68
 have k100:(c == 100)=false:=beq_eq_false_iff_ne.2 n100
 have k87:(c == 87)=false:=beq_eq_false_iff_ne.2 n87
 have k119:(c == 119)=false:=beq_eq_false_iff_ne.2 n119
 have k83:(c == 83)=false:=beq_eq_false_iff_ne.2 n83
 have k115:(c == 115)=false:=beq_eq_false_iff_ne.2 n115
 clear n92 n46 n91 n93 n40 n41 n42 n43 n63 n123 n125 n94 n36 n45 n47 n124 n110 n116 n68 n100 n87 n119 n83 n115
 go_enter Tryz.func214,Tryz.ntmps214
 go_wp2_with (first|(with_reducible refine Zae 24 ?_;refine Zak H ?_;clear H;intro g w' H q1 q2;clear q1 q2)|(with_reducible refine Zab 24 ?_;refine Zag 0 (s':=noSet) H rfl rfl rfl ?_;clear H;intro w' H))
 refine bodyPost_ret (Zat rfl _ _ g _ rfl (ZaB (H.get 0 rfl))) rfl ?_
 exact⟨rfl,H.below⟩
theorem Zh6 (c:Int)(w:World):Calls Tryz.prog 214 #[.int .u8 c] w fun e w'=>e=.returned (.tuple #[Zbf ((esc c).getD noSet),.bool (esc c).isSome])/\Below w.heap.size w w':=by
 by_cases h:c ∈ Zle
 ·have hh:=h
  simp only [Zle,List.mem_cons,List.not_mem_nil,or_false] at h
  rw [show esc c=some (Zcn c.toNat c.toNat) by unfold esc;rw [if_pos hh]]
  rcases h with rfl|rfl|rfl|rfl|rfl|rfl|rfl|rfl|rfl|rfl|rfl|rfl|rfl|rfl|rfl|rfl
  ·exact esc_92 w
  ·exact esc_46 w
  ·exact esc_91 w
  ·exact esc_93 w
  ·exact esc_40 w
  ·exact esc_41 w
  ·exact esc_42 w
  ·exact esc_43 w
  ·exact esc_63 w
  ·exact esc_123 w
  ·exact esc_125 w
  ·exact esc_94 w
  ·exact esc_36 w
  ·exact esc_45 w
  ·exact esc_47 w
  ·exact esc_124 w
 ·unfold esc
  rw [if_neg h]
  simp only [Zle,List.mem_cons,List.not_mem_nil,or_false,not_or] at h
  obtain⟨n92,n46,n91,n93,n40,n41,n42,n43,n63,n123,n125,n94,n36,n45,n47,n124⟩:=h
  by_cases n110:c=110
  ·subst n110;simp only [show ¬ ((110:Int)=0) by decide,↓reduceIte,Int.reduceEq,Option.getD_some,Option.isSome_some];exact esc_110 w
  ·rw [if_neg n110]
   by_cases n116:c=116
   ·subst n116;simp only [show ¬ ((116:Int)=0) by decide,↓reduceIte,Int.reduceEq,Option.getD_some,Option.isSome_some];exact esc_116 w
   ·rw [if_neg n116]
    by_cases n68:c=68
    ·subst n68;simp only [show ¬ ((68:Int)=0) by decide,↓reduceIte,Int.reduceEq,Option.getD_some,Option.isSome_some];exact esc_68 w
    ·rw [if_neg n68]
     by_cases n100:c=100
     ·subst n100;simp only [show ¬ ((100:Int)=0) by decide,↓reduceIte,Int.reduceEq,Option.getD_some,Option.isSome_some];exact esc_100 w
     ·rw [if_neg n100]
      by_cases n87:c=87
      ·subst n87;simp only [show ¬ ((87:Int)=0) by decide,↓reduceIte,Int.reduceEq,Option.getD_some,Option.isSome_some];exact esc_87 w
      ·rw [if_neg n87]
       by_cases n119:c=119
       ·subst n119;simp only [show ¬ ((119:Int)=0) by decide,↓reduceIte,Int.reduceEq,Option.getD_some,Option.isSome_some];exact esc_119 w
       ·rw [if_neg n119]
        by_cases n83:c=83
        ·subst n83;simp only [show ¬ ((83:Int)=0) by decide,↓reduceIte,Int.reduceEq,Option.getD_some,Option.isSome_some];exact esc_83 w
        ·rw [if_neg n83]
         by_cases n115:c=115
         ·subst n115;simp only [show ¬ ((115:Int)=0) by decide,↓reduceIte,Int.reduceEq,Option.getD_some,Option.isSome_some];exact esc_115 w
         ·rw [if_neg n115]
          exact esc_none c n92 n46 n91 n93 n40 n41 n42 n43 n63 n123 n125 n94 n36 n45 n47 n124 n110 n116 n68 n100 n87 n119 n83 n115 w
end
section
open Go.RowKit
def escR (s:ByteArray)(k:Nat):Rs:=if bt s (k+1)=120 then hexR s (k+2) else match esc (bt s (k+1)) with
 | none=>(noSet,k+1,false)
 | some x=>(x,k+2,true)
theorem Zfo (s:ByteArray)(k:Nat)(hk:k<=90000)(w:World){z:Int}(hz:z=(k:Int)):Calls Tryz.prog 174 #[.string s,.int .i64 z] w fun e w'=>e=.returned (.tuple #[Zbf (escR s k).1,.int .i64 ((escR s k).2.1:Int),.bool (escR s k).2.2])/\Below w.heap.size w w':=by
 subst hz
 have H:=St.start Nope w
 unfold escR
 generalize hc:bt s (k+1)=c
 replace hc:=Zaa hc
 by_cases h1:c=120
 ·subst h1
  rw [if_pos rfl]
  generalize hr:hexR s (k+2)=r
  have P:=Zaa (fun w z hz=>hex_any s (k+2) (by omega) w (z:=z) hz)
  rw [hr] at P
  obtain⟨x,d,ok⟩:=r
  simp only at P ⊢
  replace hr:=Zaa hr
  go_enter Tryz.func174,Tryz.ntmps174
  go_wp2_with (with_reducible refine Zae 24 ?_;refine Zak H ?_;clear H;intro g w' H q1 q2;clear q1 q2)
  refine (Zam s (k+1) _ (by omega)).mono ?_
  rintro e w1 ⟨rfl,rfl⟩
  rw [hc.out]
  go_wp2_with fail
  refine (P.out _ _ (by omega)).mono ?_
  rintro e w2 ⟨rfl,b2⟩
  replace H:=H.call b2 (Nat.le_refl _)
  go_wp2_with (with_reducible refine Zab 24 ?_;refine Zag 0 H rfl rfl rfl ?_;clear H;intro w' H)
  refine bodyPost_ret (Zaj rfl _ _ g _ rfl (ZaB (H.get 0 rfl))) rfl ?_
  exact⟨rfl,H.below⟩
 ·rw [if_neg h1]
  have h2:(c == 120)=false:=beq_eq_false_iff_ne.2 h1
  replace h1:=Zaa h1
  have P:=Zaa (Zh6 c)
  generalize esc c=r at P ⊢
  cases r with
  | none =>
   simp only [Option.getD_none,Option.isSome_none] at P
   go_enter Tryz.func174,Tryz.ntmps174
   go_wp2_with (with_reducible refine Zae 24 ?_;refine Zak H ?_;clear H;intro g w' H q1 q2;clear q1 q2)
   refine (Zam s (k+1) _ (by omega)).mono ?_
   rintro e w1 ⟨rfl,rfl⟩
   rw [hc.out]
   go_wp2_with fail
   refine (P.out _).mono ?_
   rintro e w2 ⟨rfl,b2⟩
   replace H:=H.call b2 (Nat.le_refl _)
   go_wp2_with (first|(with_reducible refine Zae 24 ?_;refine Zak H ?_;clear H;intro g2 w' H q1 q2;clear q1 q2)|(with_reducible refine Zab 24 ?_;first|(refine Zag 0 H rfl rfl rfl ?_;clear H;intro w' H)|(refine Zag 1 (s':=noSet) H rfl rfl rfl ?_;clear H;intro w' H)))
   refine bodyPost_ret (Zaj rfl _ _ g _ rfl (ZaB (H.get 1 rfl))) rfl ?_
   exact⟨rfl,H.below⟩
  | some x =>
   simp only [Option.getD_some,Option.isSome_some] at P
   go_enter Tryz.func174,Tryz.ntmps174
   go_wp2_with (with_reducible refine Zae 24 ?_;refine Zak H ?_;clear H;intro g w' H q1 q2;clear q1 q2)
   refine (Zam s (k+1) _ (by omega)).mono ?_
   rintro e w1 ⟨rfl,rfl⟩
   rw [hc.out]
   go_wp2_with fail
   refine (P.out _).mono ?_
   rintro e w2 ⟨rfl,b2⟩
   replace H:=H.call b2 (Nat.le_refl _)
   go_wp2_with (first|(with_reducible refine Zae 24 ?_;refine Zak H ?_;clear H;intro g2 w' H q1 q2;clear q1 q2)|(with_reducible refine Zac 24 ?_;refine Zaq 0 H rfl rfl ?_)|(with_reducible refine Zab 24 ?_;first|(refine Zag 0 H rfl rfl rfl ?_;clear H;intro w' H)|(refine Zag 1 H rfl rfl rfl ?_;clear H;intro w' H)))
   refine bodyPost_ret (Zaj rfl _ _ g _ rfl (ZaB (H.get 1 rfl))) rfl ?_
   exact⟨rfl,H.below⟩
def Zea (s:ByteArray)(k:Nat):Rs:=if bt s k=92 then escR s k else if bt s k=93\/bt s k=91\/bt s k=45 then (noSet,k,false) else plR s k
theorem Zfp (s:ByteArray)(k:Nat)(hk:k<=80000)(w:World){z:Int}(hz:z=(k:Int)):Calls Tryz.prog 227 #[.string s,.int .i64 z] w fun e w'=>e=.returned (.tuple #[Zbf (Zea s k).1,.int .i64 ((Zea s k).2.1:Int),.bool (Zea s k).2.2])/\Below w.heap.size w w':=by
 subst hz
 have H:=St.start Nope w
 unfold Zea
 have P:=Zaa (fun w z hz=>Zfo s k (by omega) w (z:=z) hz)
 have P2:=Zaa (fun w z hz=>ZgL s k (by omega) w (z:=z) hz)
 generalize escR s k=r1 at P ⊢
 generalize plR s k=r2 at P2 ⊢
 obtain⟨x,d,ok⟩:=r1
 obtain⟨x2,d2,ok2⟩:=r2
 simp only at P P2
 generalize hc:bt s k=c
 replace hc:=Zaa hc
 by_cases h1:c=92
 ·subst h1
  rw [if_pos rfl]
  go_enter Tryz.func227,Tryz.ntmps227
  go_wp2_with (with_reducible refine Zae 24 ?_;refine Zak H ?_;clear H;intro g w' H q1 q2;clear q1 q2)
  refine (Zam s (k) _ (rfl)).mono ?_
  rintro e w1 ⟨rfl,rfl⟩
  rw [hc.out]
  go_wp2_with fail
  refine (P.out _ _ rfl).mono ?_
  rintro e w2 ⟨rfl,b2⟩
  replace H:=H.call b2 (Nat.le_refl _)
  go_wp2_with (with_reducible refine Zab 24 ?_;refine Zag 0 H rfl rfl rfl ?_;clear H;intro w' H)
  refine bodyPost_ret (Zaj rfl _ _ g _ rfl (ZaB (H.get 0 rfl))) rfl ?_
  exact⟨rfl,H.below⟩
 ·rw [if_neg h1]
  have k1:(c == 92)=false:=beq_eq_false_iff_ne.2 h1
  replace h1:=Zaa h1
  by_cases h2:c=93\/c=91\/c=45
  ·rw [if_pos h2]
   rcases h2 with rfl|rfl|rfl
   ·clear k1
    go_enter Tryz.func227,Tryz.ntmps227
    go_wp2_with (with_reducible refine Zae 24 ?_;refine Zak H ?_;clear H;intro g w' H q1 q2;clear q1 q2)
    refine (Zam s (k) _ (rfl)).mono ?_
    rintro e w1 ⟨rfl,rfl⟩
    rw [hc.out]
    go_wp2_with (with_reducible refine Zab 24 ?_;refine Zag 0 (s':=noSet) H rfl rfl rfl ?_;clear H;intro w' H)
    refine bodyPost_ret (Zaj rfl _ _ g _ rfl (ZaB (H.get 0 rfl))) rfl ?_
    exact⟨rfl,H.below⟩
   ·clear k1
    go_enter Tryz.func227,Tryz.ntmps227
    go_wp2_with (with_reducible refine Zae 24 ?_;refine Zak H ?_;clear H;intro g w' H q1 q2;clear q1 q2)
    refine (Zam s (k) _ (rfl)).mono ?_
    rintro e w1 ⟨rfl,rfl⟩
    rw [hc.out]
    go_wp2_with (with_reducible refine Zab 24 ?_;refine Zag 0 (s':=noSet) H rfl rfl rfl ?_;clear H;intro w' H)
    refine bodyPost_ret (Zaj rfl _ _ g _ rfl (ZaB (H.get 0 rfl))) rfl ?_
    exact⟨rfl,H.below⟩
   ·clear k1
    go_enter Tryz.func227,Tryz.ntmps227
    go_wp2_with (with_reducible refine Zae 24 ?_;refine Zak H ?_;clear H;intro g w' H q1 q2;clear q1 q2)
    refine (Zam s (k) _ (rfl)).mono ?_
    rintro e w1 ⟨rfl,rfl⟩
    rw [hc.out]
    go_wp2_with (with_reducible refine Zab 24 ?_;refine Zag 0 (s':=noSet) H rfl rfl rfl ?_;clear H;intro w' H)
    refine bodyPost_ret (Zaj rfl _ _ g _ rfl (ZaB (H.get 0 rfl))) rfl ?_
    exact⟨rfl,H.below⟩
  ·rw [if_neg h2]
   have k2:(c == 93)=false:=beq_eq_false_iff_ne.2 (by omega)
   have k3:(c == 91)=false:=beq_eq_false_iff_ne.2 (by omega)
   have k4:(c == 45)=false:=beq_eq_false_iff_ne.2 (by omega)
   replace h2:=Zaa h2
   go_enter Tryz.func227,Tryz.ntmps227
   go_wp2_with (with_reducible refine Zae 24 ?_;refine Zak H ?_;clear H;intro g w' H q1 q2;clear q1 q2)
   refine (Zam s (k) _ (rfl)).mono ?_
   rintro e w1 ⟨rfl,rfl⟩
   rw [hc.out]
   go_wp2_with fail
   refine (P2.out _ _ rfl).mono ?_
   rintro e w2 ⟨rfl,b2⟩
   replace H:=H.call b2 (Nat.le_refl _)
   go_wp2_with (with_reducible refine Zab 24 ?_;refine Zag 0 H rfl rfl rfl ?_;clear H;intro w' H)
   refine bodyPost_ret (Zaj rfl _ _ g _ rfl (ZaB (H.get 0 rfl))) rfl ?_
   exact⟨rfl,H.below⟩
def Far (s:ByteArray)(k:Nat)(r:Rs):Prop:=OkS r.1/\k<=r.2.1/\(r.2.1<=s.size\/r.2.1=k)/\(r.2.2=true->k<r.2.1/\r.2.1<=s.size)
theorem pl_far (s:ByteArray)(k:Nat):Far s k (plR s k):=by
 have h:=Zdw s k
 unfold plR
 split
 ·exact⟨ZaX,Nat.le_refl _,.inr rfl,fun h=>by cases h⟩
 ·rename_i h1
  have:=ZbD (s:=s) (k:=k) (by omega)
  exact⟨Zb7 _ _ (by omega) (by omega),by simp,.inl (by simp;omega),fun _=>by simp;omega⟩
theorem Zlf {c:Int}(h:hx c≠none):c≠0:=fun e=>h (by rw [e];rfl)
theorem hex_far (s:ByteArray)(k:Nat)(hk:k<=s.size):OkS (hexR s k).1/\k<=(hexR s k).2.1/\(hexR s k).2.1<=s.size:=by
 unfold hexR
 split
 ·exact⟨ZaX,Nat.le_refl _,hk⟩
 ·rename_i h e
  have h1:=ZbD (Zlf (by rw [e];simp))
  split
  ·exact⟨ZaX,by simp,by simp;omega⟩
  ·rename_i l e2
   have h2:=ZbD (Zlf (by rw [e2];simp))
   have r1:=Zem e
   have r2:=Zem e2
   exact⟨Zb7 _ _ (by omega) (by omega),by simp,by simp;omega⟩
theorem Zjh:OkS Zld:=ZgK (fun t ht=>by simp only [List.mem_cons,List.not_mem_nil,or_false] at ht;rcases ht with rfl|rfl|rfl|rfl <;> exact Zb7 _ _ (by omega) (by omega))
theorem ZgN:OkS ZgM:=ZgK (fun t ht=>by simp only [List.mem_cons,List.not_mem_nil,or_false] at ht;rcases ht with rfl|rfl|rfl <;> exact Zb7 _ _ (by omega) (by omega))
theorem esc_ok {c:Int}{x:S4}(h:esc c=some x):OkS x/\c≠0:=by
 unfold esc at h
 split at h
 ·rename_i hm
  simp only [Zle,List.mem_cons,List.not_mem_nil,or_false] at hm
  cases h
  exact⟨Zb7 _ _ (by omega) (by omega),by omega⟩
 ·split at h
  ·cases h;exact⟨Zb7 _ _ (by omega) (by omega),by omega⟩
  ·split at h
   ·cases h;exact⟨Zb7 _ _ (by omega) (by omega),by omega⟩
   ·split at h
    ·cases h;exact⟨ZgH (Zb7 _ _ (by omega) (by omega)),by omega⟩
    ·split at h
     ·cases h;exact⟨Zb7 _ _ (by omega) (by omega),by omega⟩
     ·split at h
      ·cases h;exact⟨ZgH Zjh,by omega⟩
      ·split at h
       ·cases h;exact⟨Zjh,by omega⟩
       ·split at h
        ·cases h;exact⟨ZgH ZgN,by omega⟩
        ·split at h
         ·cases h;exact⟨ZgN,by omega⟩
         ·cases h
theorem Zlg (s:ByteArray)(k:Nat)(hk:k<s.size):Far s k (escR s k):=by
 unfold escR
 split
 ·rename_i h1
  have h2:=ZbD (s:=s) (k:=k+1) (by omega)
  obtain⟨a,b,c⟩:=hex_far s (k+2) (by omega)
  exact⟨a,by omega,.inl c,fun _=>⟨by omega,c⟩⟩
 ·split
  ·exact⟨ZaX,by simp,.inl (by simp;omega),fun h=>by cases h⟩
  ·rename_i x e
   obtain⟨a,b⟩:=esc_ok e
   have h2:=ZbD (s:=s) (k:=k+1) b
   exact⟨a,by simp,.inl (by simp;omega),fun _=>by simp;omega⟩
theorem ZfV (s:ByteArray)(k:Nat):Far s k (Zea s k):=by
 unfold Zea
 split
 ·exact Zlg s k (ZbD (by omega))
 ·split
  ·exact⟨ZaX,Nat.le_refl _,.inr rfl,fun h=>by cases h⟩
  ·exact pl_far s k
open Go.RowKit
def Zbp (s:ByteArray)(k:Nat):Rs :=
 if (Zea s k).2.2=false\/bt s (Zea s k).2.1≠45 then Zea s k
 else match only (Zea s k).1 with
  | none=>(noSet,(Zea s k).2.1,false)
  | some lo =>
   if (Zea s ((Zea s k).2.1+1)).2.2=false then (noSet,(Zea s ((Zea s k).2.1+1)).2.1,false)
   else match only (Zea s ((Zea s k).2.1+1)).1 with
    | none=>(noSet,(Zea s k).2.1+2,false)
    | some hi=>if hi<lo then (noSet,k,false) else (Zcn lo.toNat hi.toNat,(Zea s ((Zea s k).2.1+1)).2.1,true)
theorem Zc3 {s:S4}(h:OkS s){b:Int}(e:only s=some b):0<=b/\b<=255:=by
 unfold only at e
 split at e
 ·cases e;exact ZdR h 4 (by omega)
 ·cases e
theorem Zen (s:ByteArray)(hs:s.size<=256)(k:Nat)(hk:k<=1000)(w:World)(hT:Tab w){z:Int}(hz:z=(k:Int)):Calls Tryz.prog 211 #[.string s,.int .i64 z] w fun e w'=>e=.returned (.tuple #[Zbf (Zbp s k).1,.int .i64 ((Zbp s k).2.1:Int),.bool (Zbp s k).2.2])/\Below w.heap.size w w':=by
 subst hz
 have H:=St.start Nope w
 unfold Zbp
 have P:=Zaa (fun w z hz=>Zfp s k (by omega) w (z:=z) hz)
 have f1:=ZfV s k
 generalize Zea s k=r at P f1 ⊢
 obtain⟨x,d,ok⟩:=r
 obtain⟨ox,f2,f3,f4⟩:=f1
 simp only at P ox f2 f3 f4 ⊢
 have hd:d<=1000:=by omega
 cases ok with
 | false =>
  rw [if_pos (.inl rfl)]
  replace ox:=Zaa ox
  replace f3:=Zaa f3
  replace f4:=Zaa f4
  go_enter Tryz.func211,Tryz.ntmps211
  go_wp2_with (with_reducible refine Zae 24 ?_;refine Zak H ?_;clear H;intro g w' H q1 q2;clear q1 q2)
  refine (P.out _ _ rfl).mono ?_
  rintro e w2 ⟨rfl,b2⟩
  replace H:=H.call b2 (Nat.le_refl _)
  go_wp2_with (first|(with_reducible refine Zae 24 ?_;refine Zak H ?_;clear H;intro g2 w' H q1 q2;clear q1 q2)|(with_reducible refine Zac 24 ?_;first|(refine Zaq 0 H rfl rfl ?_))|(with_reducible refine Zab 24 ?_;first|(refine Zag 0 H rfl rfl rfl ?_;clear H;intro w' H)|(refine Zag 1 H rfl rfl rfl ?_;clear H;intro w' H)))
  refine bodyPost_ret (Zaj rfl _ _ g _ rfl (ZaB (H.get 1 rfl))) rfl ?_
  exact⟨rfl,H.below⟩
 | true =>
  obtain⟨f5,f6⟩:=f4 rfl
  clear f4 f3
  generalize hc:bt s d=c
  replace hc:=Zaa hc
  by_cases h1:c=45
  ·subst h1
   rw [if_neg (by simp)]
   have O:=Zaa (Zjg x ox)
   have or_:=Zaa (fun b=>Zc3 (b:=b) ox)
   generalize only x=o at O or_ ⊢
   replace ox:=Zaa ox
   cases o with
   | none =>
    simp only [Option.getD_none,Option.isSome_none] at O ⊢
    go_enter Tryz.func211,Tryz.ntmps211
    go_wp2_with (with_reducible refine Zae 24 ?_;refine Zak H ?_;clear H;intro g w' H q1 q2;clear q1 q2)
    refine (P.out _ _ rfl).mono ?_
    rintro e w2 ⟨rfl,b2⟩
    replace H:=H.call b2 (Nat.le_refl _)
    go_wp2_with (first|(with_reducible refine Zae 24 ?_;refine Zak H ?_;clear H;intro g2 w' H q1 q2;clear q1 q2)|(with_reducible refine Zab 24 ?_;first|(refine Zag 0 H rfl rfl rfl ?_;clear H;intro w' H)))
    refine (Zam s (d) _ (rfl)).mono ?_
    rintro e w1 ⟨rfl,rfl⟩
    rw [hc.out]
    go_wp2_with (with_reducible refine Zac 24 ?_;first|(refine Zaq 0 H rfl rfl ?_))
    refine (O.out _ (hT.st H (fun _ _ h=>h))).mono ?_
    rintro e w2 ⟨rfl,b2⟩
    replace H:=H.call b2 (Nat.le_refl _)
    go_wp2_with (with_reducible refine Zab 24 ?_;first|(refine Zag 1 (s':=noSet) H rfl rfl rfl ?_;clear H;intro w' H))
    refine bodyPost_ret (Zaj rfl _ _ g _ rfl (ZaB (H.get 1 rfl))) rfl ?_
    exact⟨rfl,H.below⟩
   | some lo =>
    simp only [Option.getD_some,Option.isSome_some] at O ⊢
    obtain⟨l1,l2⟩:=or_.out lo rfl
    have P2:=Zaa (fun w z hz=>Zfp s (d+1) (by omega) w (z:=z) hz)
    have q1:=ZfV s (d+1)
    generalize Zea s (d+1)=r2 at P2 q1 ⊢
    obtain⟨x2,d2,ok2⟩:=r2
    obtain⟨ox2,q2,q3,q4⟩:=q1
    simp only at P2 ox2 q2 q3 q4 ⊢
    have hd2:d2<=1001:=by omega
    replace q3:=Zaa q3
    replace q4:=Zaa q4
    cases ok2 with
    | false =>
     rw [if_pos rfl]
     replace ox2:=Zaa ox2
     go_enter Tryz.func211,Tryz.ntmps211
     go_wp2_with (with_reducible refine Zae 24 ?_;refine Zak H ?_;clear H;intro g w' H q1 q2;clear q1 q2)
     refine (P.out _ _ rfl).mono ?_
     rintro e w2 ⟨rfl,b2⟩
     replace H:=H.call b2 (Nat.le_refl _)
     go_wp2_with (first|(with_reducible refine Zae 24 ?_;refine Zak H ?_;clear H;intro g2 w' H q1 q2;clear q1 q2)|(with_reducible refine Zab 24 ?_;first|(refine Zag 0 H rfl rfl rfl ?_;clear H;intro w' H)))
     refine (Zam s (d) _ (rfl)).mono ?_
     rintro e w1 ⟨rfl,rfl⟩
     rw [hc.out]
     go_wp2_with (with_reducible refine Zac 24 ?_;first|(refine Zaq 0 H rfl rfl ?_))
     refine (O.out _ (hT.st H (fun _ _ h=>h))).mono ?_
     rintro e w2 ⟨rfl,b2⟩
     replace H:=H.call b2 (Nat.le_refl _)
     go_wp2_with fail
     refine (P2.out _ _ (by omega)).mono ?_
     rintro e w2 ⟨rfl,b2⟩
     replace H:=H.call b2 (Nat.le_refl _)
     go_wp2_with (first|(with_reducible refine Zae 24 ?_;refine Zak H ?_;clear H;intro g3 w' H q1 q2;clear q1 q2)|(with_reducible refine Zab 24 ?_;first|(refine Zag 0 H rfl rfl rfl ?_;clear H;intro w' H)|(refine Zag 2 (s':=noSet) H rfl rfl rfl ?_;clear H;intro w' H)))
     refine bodyPost_ret (Zaj rfl _ _ g _ rfl (ZaB (H.get 2 rfl))) rfl ?_
     exact⟨rfl,H.below⟩
    | true =>
     rw [if_neg (by simp)]
     have O2:=Zaa (Zjg x2 ox2)
     have or2:=Zaa (fun b=>Zc3 (b:=b) ox2)
     generalize only x2=o2 at O2 or2 ⊢
     replace ox2:=Zaa ox2
     cases o2 with
     | none =>
      simp only [Option.getD_none,Option.isSome_none] at O2 ⊢
      go_enter Tryz.func211,Tryz.ntmps211
      go_wp2_with (with_reducible refine Zae 24 ?_;refine Zak H ?_;clear H;intro g w' H q1 q2;clear q1 q2)
      refine (P.out _ _ rfl).mono ?_
      rintro e w2 ⟨rfl,b2⟩
      replace H:=H.call b2 (Nat.le_refl _)
      go_wp2_with (first|(with_reducible refine Zae 24 ?_;refine Zak H ?_;clear H;intro g2 w' H q1 q2;clear q1 q2)|(with_reducible refine Zab 24 ?_;first|(refine Zag 0 H rfl rfl rfl ?_;clear H;intro w' H)))
      refine (Zam s (d) _ (rfl)).mono ?_
      rintro e w1 ⟨rfl,rfl⟩
      rw [hc.out]
      go_wp2_with (with_reducible refine Zac 24 ?_;first|(refine Zaq 0 H rfl rfl ?_))
      refine (O.out _ (hT.st H (fun _ _ h=>h))).mono ?_
      rintro e w2 ⟨rfl,b2⟩
      replace H:=H.call b2 (Nat.le_refl _)
      go_wp2_with fail
      refine (P2.out _ _ (by omega)).mono ?_
      rintro e w2 ⟨rfl,b2⟩
      replace H:=H.call b2 (Nat.le_refl _)
      go_wp2_with (first|(with_reducible refine Zae 24 ?_;refine Zak H ?_;clear H;intro g3 w' H q1 q2;clear q1 q2)|(with_reducible refine Zab 24 ?_;first|(refine Zag 0 H rfl rfl rfl ?_;clear H;intro w' H))|(with_reducible refine Zac 24 ?_;first|(refine Zaq 0 H rfl rfl ?_)))
      refine (O2.out _ (hT.st H (fun _ _ h=>h))).mono ?_
      rintro e w2 ⟨rfl,b2⟩
      replace H:=H.call b2 (Nat.le_refl _)
      go_wp2_with (with_reducible refine Zab 24 ?_;first|(refine Zag 2 (s':=noSet) H rfl rfl rfl ?_;clear H;intro w' H))
      refine bodyPost_ret (Zaj rfl _ _ g _ rfl (ZaB (H.get 2 rfl))) rfl ?_
      exact⟨rfl,H.below⟩
     | some hi =>
      simp only [Option.getD_some,Option.isSome_some] at O2 ⊢
      obtain⟨m1,m2⟩:=or2.out hi rfl
      by_cases hlt:hi<lo
      ·rw [if_pos hlt]
       go_enter Tryz.func211,Tryz.ntmps211
       go_wp2_with (with_reducible refine Zae 24 ?_;refine Zak H ?_;clear H;intro g w' H q1 q2;clear q1 q2)
       refine (P.out _ _ rfl).mono ?_
       rintro e w2 ⟨rfl,b2⟩
       replace H:=H.call b2 (Nat.le_refl _)
       go_wp2_with (first|(with_reducible refine Zae 24 ?_;refine Zak H ?_;clear H;intro g2 w' H q1 q2;clear q1 q2)|(with_reducible refine Zab 24 ?_;first|(refine Zag 0 H rfl rfl rfl ?_;clear H;intro w' H)))
       refine (Zam s (d) _ (rfl)).mono ?_
       rintro e w1 ⟨rfl,rfl⟩
       rw [hc.out]
       go_wp2_with (with_reducible refine Zac 24 ?_;first|(refine Zaq 0 H rfl rfl ?_))
       refine (O.out _ (hT.st H (fun _ _ h=>h))).mono ?_
       rintro e w2 ⟨rfl,b2⟩
       replace H:=H.call b2 (Nat.le_refl _)
       go_wp2_with fail
       refine (P2.out _ _ (by omega)).mono ?_
       rintro e w2 ⟨rfl,b2⟩
       replace H:=H.call b2 (Nat.le_refl _)
       go_wp2_with (first|(with_reducible refine Zae 24 ?_;refine Zak H ?_;clear H;intro g3 w' H q1 q2;clear q1 q2)|(with_reducible refine Zab 24 ?_;first|(refine Zag 0 H rfl rfl rfl ?_;clear H;intro w' H))|(with_reducible refine Zac 24 ?_;first|(refine Zaq 0 H rfl rfl ?_)))
       refine (O2.out _ (hT.st H (fun _ _ h=>h))).mono ?_
       rintro e w2 ⟨rfl,b2⟩
       replace H:=H.call b2 (Nat.le_refl _)
       go_wp2_with (with_reducible refine Zab 24 ?_;first|(refine Zag 2 (s':=noSet) H rfl rfl rfl ?_;clear H;intro w' H))
       refine bodyPost_ret (Zaj rfl _ _ g _ rfl (ZaB (H.get 2 rfl))) rfl ?_
       exact⟨rfl,H.below⟩
      ·rw [if_neg hlt]
       go_enter Tryz.func211,Tryz.ntmps211
       go_wp2_with (with_reducible refine Zae 24 ?_;refine Zak H ?_;clear H;intro g w' H q1 q2;clear q1 q2)
       refine (P.out _ _ rfl).mono ?_
       rintro e w2 ⟨rfl,b2⟩
       replace H:=H.call b2 (Nat.le_refl _)
       go_wp2_with (first|(with_reducible refine Zae 24 ?_;refine Zak H ?_;clear H;intro g2 w' H q1 q2;clear q1 q2)|(with_reducible refine Zab 24 ?_;first|(refine Zag 0 H rfl rfl rfl ?_;clear H;intro w' H)))
       refine (Zam s (d) _ (rfl)).mono ?_
       rintro e w1 ⟨rfl,rfl⟩
       rw [hc.out]
       go_wp2_with (with_reducible refine Zac 24 ?_;first|(refine Zaq 0 H rfl rfl ?_))
       refine (O.out _ (hT.st H (fun _ _ h=>h))).mono ?_
       rintro e w2 ⟨rfl,b2⟩
       replace H:=H.call b2 (Nat.le_refl _)
       go_wp2_with fail
       refine (P2.out _ _ (by omega)).mono ?_
       rintro e w2 ⟨rfl,b2⟩
       replace H:=H.call b2 (Nat.le_refl _)
       go_wp2_with (first|(with_reducible refine Zae 24 ?_;refine Zak H ?_;clear H;intro g3 w' H q1 q2;clear q1 q2)|(with_reducible refine Zab 24 ?_;first|(refine Zag 0 H rfl rfl rfl ?_;clear H;intro w' H))|(with_reducible refine Zac 24 ?_;first|(refine Zaq 0 H rfl rfl ?_)))
       refine (O2.out _ (hT.st H (fun _ _ h=>h))).mono ?_
       rintro e w2 ⟨rfl,b2⟩
       replace H:=H.call b2 (Nat.le_refl _)
       go_wp2_with fail
       refine (ZaD lo.toNat hi.toNat (by omega) (by omega) _ (by omega) (by omega)).mono ?_
       rintro e w2 ⟨rfl,b2⟩
       replace H:=H.call b2 (Nat.le_refl _)
       go_wp2_with (with_reducible refine Zab 24 ?_;first|(refine Zag 2 H rfl rfl rfl ?_;clear H;intro w' H))
       refine bodyPost_ret (Zaj rfl _ _ g _ rfl (ZaB (H.get 2 rfl))) rfl ?_
       exact⟨rfl,H.below⟩
  ·rw [if_pos (.inr h1)]
   have h2:(c != 45)=true:=by simpa using h1
   replace h1:=Zaa h1
   replace ox:=Zaa ox
   go_enter Tryz.func211,Tryz.ntmps211
   go_wp2_with (with_reducible refine Zae 24 ?_;refine Zak H ?_;clear H;intro g w' H q1 q2;clear q1 q2)
   refine (P.out _ _ rfl).mono ?_
   rintro e w2 ⟨rfl,b2⟩
   replace H:=H.call b2 (Nat.le_refl _)
   go_wp2_with (first|(with_reducible refine Zae 24 ?_;refine Zak H ?_;clear H;intro g2 w' H q1 q2;clear q1 q2)|(with_reducible refine Zab 24 ?_;first|(refine Zag 0 H rfl rfl rfl ?_;clear H;intro w' H)))
   refine (Zam s (d) _ (rfl)).mono ?_
   rintro e w1 ⟨rfl,rfl⟩
   rw [hc.out]
   go_wp2_with (first|(with_reducible refine Zac 24 ?_;first|(refine Zaq 0 H rfl rfl ?_))|(with_reducible refine Zab 24 ?_;first|(refine Zag 1 H rfl rfl rfl ?_;clear H;intro w' H)))
   refine bodyPost_ret (Zaj rfl _ _ g _ rfl (ZaB (H.get 1 rfl))) rfl ?_
   exact⟨rfl,H.below⟩
theorem Zc4 (s:ByteArray)(k:Nat):Far s k (Zbp s k):=by
 obtain⟨o1,f1,f2,f3⟩:=ZfV s k
 obtain⟨o2,g1,g2,g3⟩:=ZfV s ((Zea s k).2.1+1)
 unfold Zbp
 split
 ·exact⟨o1,f1,f2,f3⟩
 ·rename_i h
  have hok:(Zea s k).2.2=true:=by simpa using fun e=>h (.inl e)
  have h45:bt s (Zea s k).2.1=45:=Classical.byContradiction fun e=>h (.inr e)
  have hl:=ZbD (s:=s) (k:=(Zea s k).2.1) (by omega)
  have f4:=f3 hok
  split
  ·exact⟨ZaX,f1,.inl (by simp;omega),fun h=>by cases h⟩
  ·rename_i lo e1
   split
   ·exact⟨ZaX,by simp;omega,.inl (by simp;omega),fun h=>by cases h⟩
   ·rename_i h2
    have h3:=g3 (by simpa using h2)
    split
    ·exact⟨ZaX,by simp;omega,.inl (by simp;omega),fun h=>by cases h⟩
    ·rename_i hi e2
     have r1:=Zc3 o1 e1
     have r2:=Zc3 o2 e2
     split
     ·exact⟨ZaX,Nat.le_refl _,.inr rfl,fun h=>by cases h⟩
     ·exact⟨Zb7 _ _ (by omega) (by omega),by simp;omega,.inl (by simp;omega),fun _=>by simp;omega⟩
end
end Go.Proofs.YtnffbmipllhjdaaGreatDoor
