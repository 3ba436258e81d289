/- GramSound, part 4. -/
import Derived.Test.YtnffbmipllhjdaaGreatDoorXZ3
import Derived.RangeFuncNested
import Derived.RangeFuncBound
import Derived.RangeFuncCalls
import Derived.RangeFuncLeaves
import Derived.RangeFuncFrom
import Derived.RangeFuncWrites
import Derived.Shelf.Abstract
import Derived.Shelf.RegionOpen
import Derived.OwnWalkIn
import Derived.TacticsInMore
import Derived.LoopNIn
import Derived.LoopIn
import Derived.Laws.StructEq
import Derived.ChangeKeysEq
set_option linter.all false
set_option maxHeartbeats 8000000
namespace Go.Proofs.YtnffbmipllhjdaaGreatDoor
section
open Go.RowKit
section
variable {S:Nat->Prop}{w0 w:World}{L:List Ent}{ops:Array Oper}{rest:List Oper}{a:Act}{Q:Exit->Act->World->Prop}{dst:Option Nat}{x y:Operand}{ty:TypeId}{pos:String}{after:Array Edge}
theorem ZeJ (t:TypeId)(zs:Array Value)(H:St S w0 w L){g:Nat}(hg:w.heap.size=g)(hz:∀ w,(execOp a.eval ⟨dst,.alloc t,ty,pos,after,none⟩).run Tryz.prog w=.ok (.value (.pointer (some ⟨w.heap.size,0,none⟩))) (w.alloc (.cells zs t)))
  (h:∀ w',St S w0 w' ((true,g,t,zs)::L)->w'.heap.size=g+1->wpList Tryz.prog ops Q rest (a.put dst (.pointer (some ⟨g,0,none⟩))) w'):wpList Tryz.prog ops Q (⟨dst,.alloc t,ty,pos,after,none⟩::rest) a w:=by
 subst hg
 refine wpList_plain rfl fun K hK=>?_
 unfold Oper.wp
 rw [hz,Oper.upon_value]
 exact hK _ _ (h _ (H.alloc t zs) (by simp))
theorem Zcq (w:World):(execOp a.eval ⟨dst,.alloc 3,ty,pos,after,none⟩).run Tryz.prog w=.ok (.value (.pointer (some ⟨w.heap.size,0,none⟩))) (w.alloc (.cells #[.int .i64 0] 3)):=by
 unfold execOp
 kernel_rfl
theorem Zkr (w:World):(execOp a.eval ⟨dst,.alloc 4,ty,pos,after,none⟩).run Tryz.prog w=.ok (.value (.pointer (some ⟨w.heap.size,0,none⟩))) (w.alloc (.cells #[.bool false] 4)):=by
 unfold execOp
 kernel_rfl
theorem Zin (w:World):(execOp a.eval ⟨dst,.alloc 183,ty,pos,after,none⟩).run Tryz.prog w=.ok (.value (.pointer (some ⟨w.heap.size,0,none⟩))) (w.alloc (.cells #[.nilFunc] 183)):=by
 unfold execOp
 kernel_rfl
theorem Zio (w:World):(execOp a.eval ⟨dst,.alloc 238,ty,pos,after,none⟩).run Tryz.prog w=.ok (.value (.pointer (some ⟨w.heap.size,0,none⟩))) (w.alloc (.cells #[.nilFunc] 238)):=by
 unfold execOp
 kernel_rfl
theorem wl_box9 (H:St S w0 w L){s:ByteArray}(hx:a.eval x=.string s){g:Nat}(hg:w.heap.size=g)
  (h:∀ w',St S w0 w' ((true,g,9,#[.string s])::L)->w'.heap.size=g+1->wpList Tryz.prog ops Q rest (a.put dst (.pointer (some ⟨g,0,none⟩))) w'):wpList Tryz.prog ops Q (⟨dst,.box 9 x,ty,pos,after,none⟩::rest) a w:=by
 subst hg
 refine wpList_plain rfl fun K hK=>?_
 have e:(execOp a.eval ⟨dst,.box 9 x,ty,pos,after,none⟩).run Tryz.prog w=.ok (.value (.pointer (some ⟨w.heap.size,0,none⟩))) (w.alloc (.cells #[.string s] 9)):=by
  unfold execOp
  simp only [hx]
  kernel_rfl
 unfold Oper.wp
 rw [e,Oper.upon_value]
 exact hK _ _ (h _ (H.alloc 9 _) (by simp))
theorem ZcL (i:Nat)(ty':TypeId)(H:St S w0 w L){t:TypeId}{g:Nat}{u v:Value}(h:L[i]?=some (true,g,t,#[u]))(hx:a.eval x=.pointer (some ⟨g,0,none⟩))(hy:a.eval y=v)(hi:∀ w,(sizeOf ty').run Tryz.prog w=.ok 1 w)(h1:v.oneCell'=true){z:Nat}(hz:w.heap.size=z)
  (k:∀ w',St S w0 w' (L.set i (true,g,t,#[v]))->w'.heap.size=z->wpList Tryz.prog ops Q rest a w'):wpList Tryz.prog ops Q (⟨none,.store ty' x y,ty,pos,after,none⟩::rest) a w:=by
 refine wpList_plain rfl fun K hK=>?_
 have h2:=H.setCell i h 0 v
 have hc:w.cell? ⟨g,0,none⟩=some u:=H.cell i 0 h rfl
 have hf:=H.fz i 0 h
 have hcs:v.cells=#[v]:=by cases v <;> first|rfl|cases h1
 have hst:(storeVar ty' ⟨g,0,none⟩ v).run Tryz.prog w=.ok () (w.setCell ⟨g,0,none⟩ v):=by
  have e:(storeCells ⟨g,0,none⟩ [v]).run Tryz.prog w=.ok () (w.setCell ⟨g,0,none⟩ v):=by simp [storeCells,go_sem,run_store Tryz.prog w _ v _ h1,stored,hc,hf]
  unfold storeVar
  simp only [Sem.run_bind,hi,Result.andThen_ok,hcs]
  simpa using e
 unfold Oper.wp execOp
 simp only [hx,hy,Instr.storeAt,Instr.sureAddr,Sem.run_bind,Sem.run_pure,Result.andThen_ok,hst]
 exact hK _ _ (k _ h2 (by rw [<- hz];simp [World.setCell]))
end
theorem Zks (s:ByteArray)(w:World)(n:Nat)(hz:w.heap.size=n):Calls Tryz.prog 69 #[.string s] w fun e w'=>e=.returned (.func (.func 125) #[] #[.pointer (some ⟨n+4,0,none⟩),.pointer (some ⟨n+1,0,none⟩),.pointer (some ⟨n+3,0,none⟩),.pointer (some ⟨n,0,none⟩)])/\Ev w' n s 0 0 true/\Below n w w':=by
 have hmf:∀ (fn:Fn) (first cap:Array Value) (w:World),(Instr.makeFunc fn first cap).run Tryz.prog w=.ok (.func fn first cap) w:=fun _ _ _ _=>rfl
 have H:=St.start Nope w
 have hz0:=Zaa hz
 go_enter Tryz.func69,Tryz.ntmps69
 go_wp2_with (first|(with_reducible refine Zar 9 ?_;refine wl_box9 H rfl hz ?_;clear H hz;intro w' H hz)|(with_reducible refine Zae 3 ?_;refine ZeJ 3 _ H hz (fun w=>Zcq w) ?_;clear H hz;intro w' H hz)|(with_reducible refine Zae 4 ?_;refine ZeJ 4 _ H hz (fun w=>Zkr w) ?_;clear H hz;intro w' H hz)|(with_reducible refine Zae 183 ?_;refine ZeJ 183 _ H hz (fun w=>Zin w) ?_;clear H hz;intro w' H hz)|(with_reducible refine Zab 3 ?_;first|(refine ZcL 1 3 H rfl rfl rfl one3 rfl hz ?_;clear H hz;intro w' H hz)|(refine ZcL 2 3 H rfl rfl rfl one3 rfl hz ?_;clear H hz;intro w' H hz))|(with_reducible refine Zab 4 ?_;first|(refine ZcL 0 4 H rfl rfl rfl one4 rfl hz ?_;clear H hz;intro w' H hz))|(with_reducible refine Zab 183 ?_;first|(refine ZcL 0 183 H rfl rfl rfl one59 rfl hz ?_;clear H hz;intro w' H hz)|(refine ZcL 4 183 H rfl rfl rfl one59 rfl hz ?_;clear H hz;intro w' H hz)))
 go_ret
 refine⟨rfl,fun x hx=>?_,by rw [<- hz0.out];exact H.below⟩
 simp only [env,List.mem_cons,List.not_mem_nil,or_false] at hx
 rcases hx with rfl|rfl|rfl|rfl|rfl|rfl|rfl|rfl|rfl
 ·exact H.get (b:=true) 7 rfl
 ·exact H.get (b:=true) 6 rfl
 ·exact H.get (b:=true) 5 rfl
 ·exact H.get (b:=true) 8 rfl
 ·exact H.get (b:=true) 4 rfl
 ·exact H.get (b:=true) 3 rfl
 ·exact H.get (b:=true) 2 rfl
 ·exact H.get (b:=true) 1 rfl
 ·exact H.get (b:=true) 0 rfl
open Go.RowKit
theorem Zjw {ev:Operand->Value}{dst:Option Nat}{ty:TypeId}{pos:String}{after:Array Edge}{gd:Option (Nat × Bool)}{x:Operand}{g:Nat}{v:Value}{w:World}(hx:ev x=.pointer (some ⟨g,0,none⟩))(hl:(loadVar 27 ⟨g,0,none⟩).run Tryz.prog w=.ok v w):(execOp ev ⟨dst,.load 27 x,ty,pos,after,gd⟩).run Tryz.prog w=.ok (.value v) w:=by
 unfold execOp
 simp only [hx,Instr.loadAt,Instr.sureAddr,Sem.run_bind,Sem.run_pure,Result.andThen_ok,hl]
theorem Zg2 {o:Oper}{a:Act}{w w':World}{K:Act->World->Prop}{Q:Exit->Act->World->Prop}{x y:Operand}(ho:o.op=.store 27 x y){g:Nat}{v:Value}(hx:a.eval x=.pointer (some ⟨g,0,none⟩))(hy:a.eval y=v)(hst:(storeVar 27 ⟨g,0,none⟩ v).run Tryz.prog w=.ok () w')(h:K (a.put o.dst undef) w'):o.wp Tryz.prog a w K Q:=by
 unfold Oper.wp execOp
 simp only [ho,hx,hy,Instr.storeAt,Instr.sureAddr,Sem.run_bind,Sem.run_pure,Result.andThen_ok,hst]
 exact h
set_option maxRecDepth 100000 in
theorem reg37t (w w':World)(n g g2 a:Nat)(s:ByteArray)(k:Int)(sx:S4)(l:Value)(mn mx:Int)(b:Bool)(hb:((a:Int) ==(s.size:Int))=b)(d1:w.cell? ⟨n+1,0,none⟩=some (.int .i64 (a:Int)))(d2:w.cell? ⟨n+3,0,none⟩=some (.bool true))(d3:w.cell? ⟨n,0,none⟩=some (.string s))(d4:∀ m,(loadVar 27 ⟨g2,0,none⟩).run Tryz.prog (w.drewN m)=.ok (reV k sx l mn mx) (w.drewN m))(d5:(storeVar 27 ⟨g,0,none⟩ (reV k sx l mn mx)).run Tryz.prog w.drew=.ok () w')(e1:w'.cell? ⟨n+1,0,none⟩=some (.int .i64 (a:Int)))(e2:w'.cell? ⟨n+3,0,none⟩=some (.bool true))(e3:w'.cell? ⟨n,0,none⟩=some (.string s))(e4:(loadVar 27 ⟨g2,0,none⟩).run Tryz.prog w'=.ok (reV k sx l mn mx) w')
  (u5 u6 u8 u9 u10 u11 u12 u13 u14 u15 u16 u17 u18:Value) (Q:Exit->Act->World->Prop) (h:Q .normal { tmps:=(List.toArray ((.pointer (some ⟨n+4,0,none⟩)::.pointer (some ⟨n+1,0,none⟩)::.pointer (some ⟨n+3,0,none⟩)::.pointer (some ⟨n,0,none⟩)::.pointer (some ⟨g,0,none⟩)::.int .i64 (a:Int)::.bool b::.pointer (some ⟨g2,0,none⟩)::u8::u9::reV k sx l mn mx::.int .i64 (a:Int)::.bool true::.bool true::.int .i64 (a:Int)::.string s::.int .i64 (s.size:Int)::.bool b::.bool b::[]):List Value)),defers:=[] } w') :
  (Code.region 2 #[⟨some 10,.load 27 (.tmp 7),27,"parse.go:66",#[],none⟩,⟨some 11,.load 3 (.tmp 1),3,"parse.go:66",#[⟨9,.gcOnly .lateStores⟩],none⟩,⟨some 12,.load 4 (.tmp 2),4,"parse.go:66",#[],none⟩,⟨some 13,.move (.tmp 12),4,"parse.go:66",#[⟨2,.data⟩],none⟩,⟨some 14,.load 3 (.tmp 1),3,"parse.go:66",#[⟨3,.guard⟩,⟨10,.gcOnly .lateStores⟩],some (3,true)⟩,⟨some 15,.load 9 (.tmp 3),9,"parse.go:66",#[⟨3,.guard⟩],some (3,true)⟩,⟨some 16,.call { callee:=.builtin .len,args:=#[.tmp 15],argTypes:=#[9] },3,"parse.go:66",#[⟨5,.data⟩,⟨3,.guard⟩],some (3,true)⟩,⟨some 17,.binOp .eql 3 (.tmp 14) (.tmp 16) 3,4,"parse.go:66",#[⟨4,.data⟩,⟨6,.data⟩,⟨3,.guard⟩,⟨10,.gcOnly .lateStores⟩],some (3,true)⟩,⟨some 18,.pick (.tmp 13) (.tmp 17) (.const (.bool false)),4,"parse.go:66",#[⟨3,.data⟩,⟨7,.data⟩,⟨10,.gcOnly .lateStores⟩],none⟩,⟨none,.store 27 (.tmp 4) (.tmp 10),0,"parse.go:66",#[⟨0,.data⟩,⟨3,.chain⟩,⟨0,.phase⟩,⟨1,.textOnly .lateStores⟩,⟨2,.textOnly .lateStores⟩,⟨3,.textOnly .lateStores⟩,⟨4,.textOnly .lateStores⟩,⟨5,.textOnly .lateStores⟩,⟨6,.textOnly .lateStoresUnsure⟩,⟨7,.textOnly .lateStores⟩,⟨8,.textOnly .lateStores⟩],none⟩,⟨some 5,.assign (.tmp 11),3,"parse.go:66",#[⟨1,.data⟩,⟨9,.chain⟩,⟨0,.phase⟩,⟨1,.phase⟩,⟨2,.textOnly .lateStores⟩,⟨3,.textOnly .lateStores⟩,⟨4,.textOnly .lateStores⟩,⟨5,.textOnly .lateStores⟩,⟨6,.textOnly .lateStoresUnsure⟩,⟨7,.textOnly .lateStores⟩,⟨8,.textOnly .lateStores⟩,⟨9,.phase⟩],none⟩,⟨some 6,.assign (.tmp 18),4,"parse.go:66",#[⟨8,.data⟩,⟨10,.chain⟩,⟨0,.phase⟩,⟨1,.phase⟩,⟨2,.phase⟩,⟨3,.phase⟩,⟨4,.phase⟩,⟨5,.phase⟩,⟨6,.phase⟩,⟨7,.phase⟩,⟨8,.phase⟩,⟨9,.phase⟩,⟨10,.phase⟩],none⟩] true).wp Tryz.prog Q { tmps:=(List.toArray ((.pointer (some ⟨n+4,0,none⟩)::.pointer (some ⟨n+1,0,none⟩)::.pointer (some ⟨n+3,0,none⟩)::.pointer (some ⟨n,0,none⟩)::.pointer (some ⟨g,0,none⟩)::u5::u6::.pointer (some ⟨g2,0,none⟩)::u8::u9::u10::u11::u12::u13::u14::u15::u16::u17::u18::[]):List Value)),defers:=[] } w:=by
 replace h:=Zaa h
 refine wp_region_noPanic ?_
 refine wp_region_held_drew (S:=(fun w'=>w'.cell? ⟨n+1,0,none⟩=some (.int .i64 (a:Int))/\w'.cell? ⟨n+3,0,none⟩=some (.bool true)/\w'.cell? ⟨n,0,none⟩=some (.string s)/\(loadVar 27 ⟨g2,0,none⟩).run Tryz.prog w'=.ok (reV k sx l mn mx) w')) (by kernel_rfl) ⟨d1,d2,d3,d4 1⟩ (fun hH0=>?_)
 refine wpAnyH_take (i:=0) (oi:=⟨some 10,.load 27 (.tmp 7),27,"parse.go:66",#[],none⟩) (v:=reV k sx l mn mx) rfl (by kernel_rfl) (by kernel_rfl) (by kernel_rfl) (fun _ _ _ h=>h) (Or.inl ⟨by rfl,fun w' hw'=>Zjw rfl hw'.2.2.2⟩) hH0 ?_
 try simp only [Act.put,PuA]
 refine wpAnyH_take (i:=1) (oi:=⟨some 11,.load 3 (.tmp 1),3,"parse.go:66",#[⟨9,.gcOnly .lateStores⟩],none⟩) (v:=?_) rfl (by kernel_rfl) (by kernel_rfl) (by kernel_rfl) (fun _ _ _ h=>h) (Or.inl ⟨by rfl,?_⟩) hH0 ?_
 rotate_left
 ·intro w' hw'
  obtain⟨c1,c2,c3,c4⟩:=hw'
  go_simp
  try with_reducible rfl
 try simp only [Act.put,PuA]
 refine wpAnyH_take (i:=2) (oi:=⟨some 12,.load 4 (.tmp 2),4,"parse.go:66",#[],none⟩) (v:=?_) rfl (by kernel_rfl) (by kernel_rfl) (by kernel_rfl) (fun _ _ _ h=>h) (Or.inl ⟨by rfl,?_⟩) hH0 ?_
 rotate_left
 ·intro w' hw'
  obtain⟨c1,c2,c3,c4⟩:=hw'
  go_simp
  try with_reducible rfl
 try simp only [Act.put,PuA]
 refine wpAnyH_take (i:=3) (oi:=⟨some 13,.move (.tmp 12),4,"parse.go:66",#[⟨2,.data⟩],none⟩) (v:=?_) rfl (by kernel_rfl) (by kernel_rfl) (by kernel_rfl) (fun _ _ _ h=>h) (Or.inl ⟨by rfl,?_⟩) hH0 ?_
 rotate_left
 ·intro w' hw'
  obtain⟨c1,c2,c3,c4⟩:=hw'
  go_simp
  try with_reducible rfl
 try simp only [Act.put,PuA]
 refine wpAnyH_take (i:=4) (oi:=⟨some 14,.load 3 (.tmp 1),3,"parse.go:66",#[⟨3,.guard⟩,⟨10,.gcOnly .lateStores⟩],some (3,true)⟩) (v:=?_) rfl (by kernel_rfl) (by kernel_rfl) (by kernel_rfl) (fun _ _ _ h=>h) (Or.inl ⟨by rfl,?_⟩) hH0 ?_
 rotate_left
 ·intro w' hw'
  obtain⟨c1,c2,c3,c4⟩:=hw'
  go_simp
  try with_reducible rfl
 try simp only [Act.put,PuA]
 refine wpAnyH_take (i:=5) (oi:=⟨some 15,.load 9 (.tmp 3),9,"parse.go:66",#[⟨3,.guard⟩],some (3,true)⟩) (v:=?_) rfl (by kernel_rfl) (by kernel_rfl) (by kernel_rfl) (fun _ _ _ h=>h) (Or.inl ⟨by rfl,?_⟩) hH0 ?_
 rotate_left
 ·intro w' hw'
  obtain⟨c1,c2,c3,c4⟩:=hw'
  go_simp
  try with_reducible rfl
 try simp only [Act.put,PuA]
 refine wpAnyH_take (i:=6) (oi:=⟨some 16,.call { callee:=.builtin .len,args:=#[.tmp 15],argTypes:=#[9] },3,"parse.go:66",#[⟨5,.data⟩,⟨3,.guard⟩],some (3,true)⟩) (v:=?_) rfl (by kernel_rfl) (by kernel_rfl) (by kernel_rfl) (fun _ _ _ h=>h) (Or.inl ⟨by rfl,?_⟩) hH0 ?_
 rotate_left
 ·intro w' hw'
  obtain⟨c1,c2,c3,c4⟩:=hw'
  go_simp
  try with_reducible rfl
 try simp only [Act.put,PuA]
 refine wpAnyH_take (i:=7) (oi:=⟨some 17,.binOp .eql 3 (.tmp 14) (.tmp 16) 3,4,"parse.go:66",#[⟨4,.data⟩,⟨6,.data⟩,⟨3,.guard⟩,⟨10,.gcOnly .lateStores⟩],some (3,true)⟩) (v:=?_) rfl (by kernel_rfl) (by kernel_rfl) (by kernel_rfl) (fun _ _ _ h=>h) (Or.inl ⟨by rfl,?_⟩) hH0 ?_
 rotate_left
 ·intro w' hw'
  obtain⟨c1,c2,c3,c4⟩:=hw'
  go_simp
  try with_reducible rfl
 try simp only [Act.put,PuA]
 refine wpAnyH_take (i:=8) (oi:=⟨some 18,.pick (.tmp 13) (.tmp 17) (.const (.bool false)),4,"parse.go:66",#[⟨3,.data⟩,⟨7,.data⟩,⟨10,.gcOnly .lateStores⟩],none⟩) (v:=?_) rfl (by kernel_rfl) (by kernel_rfl) (by kernel_rfl) (fun _ _ _ h=>h) (Or.inl ⟨by rfl,?_⟩) hH0 ?_
 rotate_left
 ·intro w' hw'
  obtain⟨c1,c2,c3,c4⟩:=hw'
  go_simp
  try with_reducible rfl
 try simp only [Act.put,PuA]
 refine wpAnyH_ready (rs:=[9]) (by kernel_rfl) (by simp) ?_
 refine AllReadyH.cons (o:=⟨none,.store 27 (.tmp 4) (.tmp 10),0,"parse.go:66",#[⟨0,.data⟩,⟨3,.chain⟩,⟨0,.phase⟩,⟨1,.textOnly .lateStores⟩,⟨2,.textOnly .lateStores⟩,⟨3,.textOnly .lateStores⟩,⟨4,.textOnly .lateStores⟩,⟨5,.textOnly .lateStores⟩,⟨6,.textOnly .lateStoresUnsure⟩,⟨7,.textOnly .lateStores⟩,⟨8,.textOnly .lateStores⟩],none⟩) rfl (fun K hK=>?_) AllReadyH.nil
 rw [if_pos (by rfl)]
 refine Zg2 rfl rfl rfl d5 ?_
 refine hK.out _ _ ⟨e1,e2,e3,e4⟩ (fun hH1=>?_)
 clear hK
 try simp only [Act.put,PuA]
 refine wpAnyH_take (i:=10) (oi:=⟨some 5,.assign (.tmp 11),3,"parse.go:66",#[⟨1,.data⟩,⟨9,.chain⟩,⟨0,.phase⟩,⟨1,.phase⟩,⟨2,.textOnly .lateStores⟩,⟨3,.textOnly .lateStores⟩,⟨4,.textOnly .lateStores⟩,⟨5,.textOnly .lateStores⟩,⟨6,.textOnly .lateStoresUnsure⟩,⟨7,.textOnly .lateStores⟩,⟨8,.textOnly .lateStores⟩,⟨9,.phase⟩],none⟩) (v:=?_) rfl (by kernel_rfl) (by kernel_rfl) (by kernel_rfl) (fun _ _ _ h=>h) (Or.inl ⟨by rfl,?_⟩) hH1 ?_
 rotate_left
 ·intro w' hw'
  obtain⟨c1,c2,c3,c4⟩:=hw'
  go_simp
  try with_reducible rfl
 try simp only [Act.put,PuA]
 refine wpAnyH_take (i:=11) (oi:=⟨some 6,.assign (.tmp 18),4,"parse.go:66",#[⟨8,.data⟩,⟨10,.chain⟩,⟨0,.phase⟩,⟨1,.phase⟩,⟨2,.phase⟩,⟨3,.phase⟩,⟨4,.phase⟩,⟨5,.phase⟩,⟨6,.phase⟩,⟨7,.phase⟩,⟨8,.phase⟩,⟨9,.phase⟩,⟨10,.phase⟩],none⟩) (v:=?_) rfl (by kernel_rfl) (by kernel_rfl) (by kernel_rfl) (fun _ _ _ h=>h) (Or.inl ⟨by rfl,?_⟩) hH1 ?_
 rotate_left
 ·intro w' hw'
  obtain⟨c1,c2,c3,c4⟩:=hw'
  go_simp
  try with_reducible rfl
 try simp only [Act.put,PuA]
 refine wpAnyH_done (by kernel_rfl) ?_ _
 refine NoPanic.normal ?_
 exact h.out
set_option maxRecDepth 100000 in
theorem reg37f (w w':World)(n g g2 a:Nat)(s:ByteArray)(k:Int)(sx:S4)(l:Value)(mn mx:Int)(b:Bool)(hb:((a:Int) ==(s.size:Int))=b)(d1:w.cell? ⟨n+1,0,none⟩=some (.int .i64 (a:Int)))(d2:w.cell? ⟨n+3,0,none⟩=some (.bool false))(d3:w.cell? ⟨n,0,none⟩=some (.string s))(d4:∀ m,(loadVar 27 ⟨g2,0,none⟩).run Tryz.prog (w.drewN m)=.ok (reV k sx l mn mx) (w.drewN m))(d5:(storeVar 27 ⟨g,0,none⟩ (reV k sx l mn mx)).run Tryz.prog w.drew=.ok () w')(e1:w'.cell? ⟨n+1,0,none⟩=some (.int .i64 (a:Int)))(e2:w'.cell? ⟨n+3,0,none⟩=some (.bool false))(e3:w'.cell? ⟨n,0,none⟩=some (.string s))(e4:(loadVar 27 ⟨g2,0,none⟩).run Tryz.prog w'=.ok (reV k sx l mn mx) w')
  (u5 u6 u8 u9 u10 u11 u12 u13 u14 u15 u16 u17 u18:Value) (Q:Exit->Act->World->Prop) (h:Q .normal { tmps:=(List.toArray ((.pointer (some ⟨n+4,0,none⟩)::.pointer (some ⟨n+1,0,none⟩)::.pointer (some ⟨n+3,0,none⟩)::.pointer (some ⟨n,0,none⟩)::.pointer (some ⟨g,0,none⟩)::.int .i64 (a:Int)::.bool false::.pointer (some ⟨g2,0,none⟩)::u8::u9::reV k sx l mn mx::.int .i64 (a:Int)::.bool false::.bool false::undef::undef::undef::undef::.bool false::[]):List Value)),defers:=[] } w') :
  (Code.region 2 #[⟨some 10,.load 27 (.tmp 7),27,"parse.go:66",#[],none⟩,⟨some 11,.load 3 (.tmp 1),3,"parse.go:66",#[⟨9,.gcOnly .lateStores⟩],none⟩,⟨some 12,.load 4 (.tmp 2),4,"parse.go:66",#[],none⟩,⟨some 13,.move (.tmp 12),4,"parse.go:66",#[⟨2,.data⟩],none⟩,⟨some 14,.load 3 (.tmp 1),3,"parse.go:66",#[⟨3,.guard⟩,⟨10,.gcOnly .lateStores⟩],some (3,true)⟩,⟨some 15,.load 9 (.tmp 3),9,"parse.go:66",#[⟨3,.guard⟩],some (3,true)⟩,⟨some 16,.call { callee:=.builtin .len,args:=#[.tmp 15],argTypes:=#[9] },3,"parse.go:66",#[⟨5,.data⟩,⟨3,.guard⟩],some (3,true)⟩,⟨some 17,.binOp .eql 3 (.tmp 14) (.tmp 16) 3,4,"parse.go:66",#[⟨4,.data⟩,⟨6,.data⟩,⟨3,.guard⟩,⟨10,.gcOnly .lateStores⟩],some (3,true)⟩,⟨some 18,.pick (.tmp 13) (.tmp 17) (.const (.bool false)),4,"parse.go:66",#[⟨3,.data⟩,⟨7,.data⟩,⟨10,.gcOnly .lateStores⟩],none⟩,⟨none,.store 27 (.tmp 4) (.tmp 10),0,"parse.go:66",#[⟨0,.data⟩,⟨3,.chain⟩,⟨0,.phase⟩,⟨1,.textOnly .lateStores⟩,⟨2,.textOnly .lateStores⟩,⟨3,.textOnly .lateStores⟩,⟨4,.textOnly .lateStores⟩,⟨5,.textOnly .lateStores⟩,⟨6,.textOnly .lateStoresUnsure⟩,⟨7,.textOnly .lateStores⟩,⟨8,.textOnly .lateStores⟩],none⟩,⟨some 5,.assign (.tmp 11),3,"parse.go:66",#[⟨1,.data⟩,⟨9,.chain⟩,⟨0,.phase⟩,⟨1,.phase⟩,⟨2,.textOnly .lateStores⟩,⟨3,.textOnly .lateStores⟩,⟨4,.textOnly .lateStores⟩,⟨5,.textOnly .lateStores⟩,⟨6,.textOnly .lateStoresUnsure⟩,⟨7,.textOnly .lateStores⟩,⟨8,.textOnly .lateStores⟩,⟨9,.phase⟩],none⟩,⟨some 6,.assign (.tmp 18),4,"parse.go:66",#[⟨8,.data⟩,⟨10,.chain⟩,⟨0,.phase⟩,⟨1,.phase⟩,⟨2,.phase⟩,⟨3,.phase⟩,⟨4,.phase⟩,⟨5,.phase⟩,⟨6,.phase⟩,⟨7,.phase⟩,⟨8,.phase⟩,⟨9,.phase⟩,⟨10,.phase⟩],none⟩] true).wp Tryz.prog Q { tmps:=(List.toArray ((.pointer (some ⟨n+4,0,none⟩)::.pointer (some ⟨n+1,0,none⟩)::.pointer (some ⟨n+3,0,none⟩)::.pointer (some ⟨n,0,none⟩)::.pointer (some ⟨g,0,none⟩)::u5::u6::.pointer (some ⟨g2,0,none⟩)::u8::u9::u10::u11::u12::u13::u14::u15::u16::u17::u18::[]):List Value)),defers:=[] } w:=by
 replace h:=Zaa h
 refine wp_region_noPanic ?_
 refine wp_region_held_drew (S:=(fun w'=>w'.cell? ⟨n+1,0,none⟩=some (.int .i64 (a:Int))/\w'.cell? ⟨n+3,0,none⟩=some (.bool false)/\w'.cell? ⟨n,0,none⟩=some (.string s)/\(loadVar 27 ⟨g2,0,none⟩).run Tryz.prog w'=.ok (reV k sx l mn mx) w')) (by kernel_rfl) ⟨d1,d2,d3,d4 1⟩ (fun hH0=>?_)
 refine wpAnyH_take (i:=0) (oi:=⟨some 10,.load 27 (.tmp 7),27,"parse.go:66",#[],none⟩) (v:=reV k sx l mn mx) rfl (by kernel_rfl) (by kernel_rfl) (by kernel_rfl) (fun _ _ _ h=>h) (Or.inl ⟨by rfl,fun w' hw'=>Zjw rfl hw'.2.2.2⟩) hH0 ?_
 try simp only [Act.put,PuA]
 refine wpAnyH_take (i:=1) (oi:=⟨some 11,.load 3 (.tmp 1),3,"parse.go:66",#[⟨9,.gcOnly .lateStores⟩],none⟩) (v:=?_) rfl (by kernel_rfl) (by kernel_rfl) (by kernel_rfl) (fun _ _ _ h=>h) (Or.inl ⟨by rfl,?_⟩) hH0 ?_
 rotate_left
 ·intro w' hw'
  obtain⟨c1,c2,c3,c4⟩:=hw'
  go_simp
  try with_reducible rfl
 try simp only [Act.put,PuA]
 refine wpAnyH_take (i:=2) (oi:=⟨some 12,.load 4 (.tmp 2),4,"parse.go:66",#[],none⟩) (v:=?_) rfl (by kernel_rfl) (by kernel_rfl) (by kernel_rfl) (fun _ _ _ h=>h) (Or.inl ⟨by rfl,?_⟩) hH0 ?_
 rotate_left
 ·intro w' hw'
  obtain⟨c1,c2,c3,c4⟩:=hw'
  go_simp
  try with_reducible rfl
 try simp only [Act.put,PuA]
 refine wpAnyH_take (i:=3) (oi:=⟨some 13,.move (.tmp 12),4,"parse.go:66",#[⟨2,.data⟩],none⟩) (v:=?_) rfl (by kernel_rfl) (by kernel_rfl) (by kernel_rfl) (fun _ _ _ h=>h) (Or.inl ⟨by rfl,?_⟩) hH0 ?_
 rotate_left
 ·intro w' hw'
  obtain⟨c1,c2,c3,c4⟩:=hw'
  go_simp
  try with_reducible rfl
 try simp only [Act.put,PuA]
 refine wpAnyH_take (i:=4) (oi:=⟨some 14,.load 3 (.tmp 1),3,"parse.go:66",#[⟨3,.guard⟩,⟨10,.gcOnly .lateStores⟩],some (3,true)⟩) (v:=undef) rfl (by kernel_rfl) (by kernel_rfl) (by kernel_rfl) (fun _ _ _ h=>h) (Or.inr ⟨by rfl,rfl⟩) hH0 ?_
 try simp only [Act.put,PuA]
 refine wpAnyH_take (i:=5) (oi:=⟨some 15,.load 9 (.tmp 3),9,"parse.go:66",#[⟨3,.guard⟩],some (3,true)⟩) (v:=undef) rfl (by kernel_rfl) (by kernel_rfl) (by kernel_rfl) (fun _ _ _ h=>h) (Or.inr ⟨by rfl,rfl⟩) hH0 ?_
 try simp only [Act.put,PuA]
 refine wpAnyH_take (i:=6) (oi:=⟨some 16,.call { callee:=.builtin .len,args:=#[.tmp 15],argTypes:=#[9] },3,"parse.go:66",#[⟨5,.data⟩,⟨3,.guard⟩],some (3,true)⟩) (v:=undef) rfl (by kernel_rfl) (by kernel_rfl) (by kernel_rfl) (fun _ _ _ h=>h) (Or.inr ⟨by rfl,rfl⟩) hH0 ?_
 try simp only [Act.put,PuA]
 refine wpAnyH_take (i:=7) (oi:=⟨some 17,.binOp .eql 3 (.tmp 14) (.tmp 16) 3,4,"parse.go:66",#[⟨4,.data⟩,⟨6,.data⟩,⟨3,.guard⟩,⟨10,.gcOnly .lateStores⟩],some (3,true)⟩) (v:=undef) rfl (by kernel_rfl) (by kernel_rfl) (by kernel_rfl) (fun _ _ _ h=>h) (Or.inr ⟨by rfl,rfl⟩) hH0 ?_
 try simp only [Act.put,PuA]
 refine wpAnyH_take (i:=8) (oi:=⟨some 18,.pick (.tmp 13) (.tmp 17) (.const (.bool false)),4,"parse.go:66",#[⟨3,.data⟩,⟨7,.data⟩,⟨10,.gcOnly .lateStores⟩],none⟩) (v:=?_) rfl (by kernel_rfl) (by kernel_rfl) (by kernel_rfl) (fun _ _ _ h=>h) (Or.inl ⟨by rfl,?_⟩) hH0 ?_
 rotate_left
 ·intro w' hw'
  obtain⟨c1,c2,c3,c4⟩:=hw'
  go_simp
  try with_reducible rfl
 try simp only [Act.put,PuA]
 refine wpAnyH_ready (rs:=[9]) (by kernel_rfl) (by simp) ?_
 refine AllReadyH.cons (o:=⟨none,.store 27 (.tmp 4) (.tmp 10),0,"parse.go:66",#[⟨0,.data⟩,⟨3,.chain⟩,⟨0,.phase⟩,⟨1,.textOnly .lateStores⟩,⟨2,.textOnly .lateStores⟩,⟨3,.textOnly .lateStores⟩,⟨4,.textOnly .lateStores⟩,⟨5,.textOnly .lateStores⟩,⟨6,.textOnly .lateStoresUnsure⟩,⟨7,.textOnly .lateStores⟩,⟨8,.textOnly .lateStores⟩],none⟩) rfl (fun K hK=>?_) AllReadyH.nil
 rw [if_pos (by rfl)]
 refine Zg2 rfl rfl rfl d5 ?_
 refine hK.out _ _ ⟨e1,e2,e3,e4⟩ (fun hH1=>?_)
 clear hK
 try simp only [Act.put,PuA]
 refine wpAnyH_take (i:=10) (oi:=⟨some 5,.assign (.tmp 11),3,"parse.go:66",#[⟨1,.data⟩,⟨9,.chain⟩,⟨0,.phase⟩,⟨1,.phase⟩,⟨2,.textOnly .lateStores⟩,⟨3,.textOnly .lateStores⟩,⟨4,.textOnly .lateStores⟩,⟨5,.textOnly .lateStores⟩,⟨6,.textOnly .lateStoresUnsure⟩,⟨7,.textOnly .lateStores⟩,⟨8,.textOnly .lateStores⟩,⟨9,.phase⟩],none⟩) (v:=?_) rfl (by kernel_rfl) (by kernel_rfl) (by kernel_rfl) (fun _ _ _ h=>h) (Or.inl ⟨by rfl,?_⟩) hH1 ?_
 rotate_left
 ·intro w' hw'
  obtain⟨c1,c2,c3,c4⟩:=hw'
  go_simp
  try with_reducible rfl
 try simp only [Act.put,PuA]
 refine wpAnyH_take (i:=11) (oi:=⟨some 6,.assign (.tmp 18),4,"parse.go:66",#[⟨8,.data⟩,⟨10,.chain⟩,⟨0,.phase⟩,⟨1,.phase⟩,⟨2,.phase⟩,⟨3,.phase⟩,⟨4,.phase⟩,⟨5,.phase⟩,⟨6,.phase⟩,⟨7,.phase⟩,⟨8,.phase⟩,⟨9,.phase⟩,⟨10,.phase⟩],none⟩) (v:=?_) rfl (by kernel_rfl) (by kernel_rfl) (by kernel_rfl) (fun _ _ _ h=>h) (Or.inl ⟨by rfl,?_⟩) hH1 ?_
 rotate_left
 ·intro w' hw'
  obtain⟨c1,c2,c3,c4⟩:=hw'
  go_simp
  try with_reducible rfl
 try simp only [Act.put,PuA]
 refine wpAnyH_done (by kernel_rfl) ?_ _
 refine NoPanic.normal ?_
 exact h.out
theorem Zes {w:World}{g:Nat}{n:Int}{s:S4}{l:Value}{mn mx:Int}{n':Int}{s':S4}{l':Value}{mn' mx':Int}(h:w.heap[g]?=some (.cells (reA n s l mn mx) 27 (0,0)))(hl:l'.oneCell'=true):(storeVar 27 ⟨g,0,none⟩ (reV n' s' l' mn' mx')).run Tryz.prog w=.ok () (w.setRow g (reA n' s' l' mn' mx')) :=
 run_storeVar_row w g 27 27 _ _ h Zfn rfl (by have h1:∀ k n,(Value.int k n).oneCell'=true:=fun _ _=>rfl;simp [reA,hl,h1])
def PostP (w:World)(s:ByteArray)(res:Except Nat Tr)(e:Ending)(w':World):Prop:=∃ x a' b,e=.returned (.tuple #[x,.int .i64 ((a':Nat):Int),.bool b])/\Below w.heap.size w w'/\(∃ t,TrV w' (fun b=>w.heap.size<=b) x t/\(match res with
 | .error p=>b=false/\a'=p
 | .ok t'=>b=true/\t=t'))
def ZlP (s:ByteArray)(r:Out):Except Nat Tr:=match r with
 | .error p=>.error p
 | .ok (t,d)=>if d=s.size then .ok t else .error d
theorem ZlQ (s:ByteArray):Zdh s=ZlP s (Zk7 (brM s 32) s 0):=rfl
theorem run_any (w0:World)(n:Nat)(hn:0<n)(hw0:w0.heap.size=n)(s:ByteArray)(hs:s.size<=256)(w:World)(hT:Tab w)(hE:Ev w n s 0 0 true)(hB:Below n w0 w) :
  Calls Tryz.prog 125 #[.pointer (some ⟨n+4,0,none⟩),.pointer (some ⟨n+1,0,none⟩),.pointer (some ⟨n+3,0,none⟩),.pointer (some ⟨n,0,none⟩)] w (PostP w0 s (Zdh s)):=by
 have H:St (S3 n) w w (env n s 0 0 true):=hE.st
 have hE8:=hE.lt
 have PA:=Zaa (fun w hT hE=>ZlO n hn s hs 0 (brM s 32) (br_any n hn s hs 32 (Nat.le_refl _)) 97 (by omega) (ZeF s 32) w hT 0 (Nat.zero_le _) hE)
 rw [ZlQ]
 generalize Zk7 (brM s 32) s 0=rA at PA ⊢
 generalize hres:ZlP s rA=res
 replace hres:=Zaa hres
 go_enter Tryz.func125,Tryz.ntmps125
 go_wp2_with (first|(with_reducible refine Zae 27 ?_;refine Zap H ?_;clear H;intro g w' H q1 q2)|(with_reducible refine Zac 9 ?_;first|(refine Zbn 4 0 H rfl rfl rfl ?_))|(with_reducible refine Zac 3 ?_;first|(refine Zax 1 0 H rfl rfl rfl ?_))|(with_reducible refine Zac 4 ?_;first|(refine Za3 3 0 H rfl rfl rfl ?_))|(with_reducible refine Zac 183 ?_;first|(refine ZaH 5 0 H rfl rfl rfl ?_;simp only [brF,atF,piF,seF,alF])|(refine ZaH 6 0 H rfl rfl rfl ?_;simp only [brF,atF,piF,seF,alF])|(refine ZaH 7 0 H rfl rfl rfl ?_;simp only [brF,atF,piF,seF,alF])|(refine ZaH 8 0 H rfl rfl rfl ?_;simp only [brF,atF,piF,seF,alF])|(refine ZaH 9 0 H rfl rfl rfl ?_;simp only [brF,atF,piF,seF,alF])))
 have hgl:=H.lti 0 rfl
 have hs1:=H.but.size
 refine (PA.out _ (ZdA hT H hn) (St.ev (M:=[_]) H)).mono ?_
 rintro e w2 ⟨x,t,a',o',r,rfl,T,E2,B2,A2⟩
 have W2:=St.closure (M:=[_]) H B2 (fun i _ h=>h) E2
 have hs2:=B2.size
 clear H PA
 have H:=St.rebaseE (M:=[_]) W2 (fun k=>k=g) (fun x hx=>by simp only [List.mem_cons,List.not_mem_nil,or_false] at hx;subst hx;rfl)
 obtain⟨va,vn,vc,hx⟩:=T.val
 subst hx
 go_wp2_with (first|(with_reducible refine Zae 27 ?_;refine Zap H ?_;clear H;intro g2 w' H q3 q4)|(with_reducible refine Zab 27 ?_;refine Zao 0 H rfl rfl rfl rfl ?_;clear H;intro w' H))
 have keep:Hid (∀ w',But (fun k=>S3 n k\/k=g) w2 w'->TrV w' (fun b=>w0.heap.size<=b) (reV t.1.k t.1.s (.slice va vn vc) t.1.mn t.1.mx) t):=fun w' hb =>
  ((T.mono (P':=fun b=>w0.heap.size<=b/\b≠g/\¬ S3 n b) (fun b hb hP=>by simp only [S3];omega)).kept (fun b hP hl=>hb.block b hl (fun h=>by rcases h with h|h;exact hP.2.2 h;exact hP.2.1 h))).mono (fun b _ hP=>hP.1)
 have fin:Hid (∀ w',But (fun k=>S3 n k\/k=g) w2 w'->Below w0.heap.size w0 w'):=fun w' hb=>by
  rw [hw0]
  exact hB.trans ((W2.but.trans hb (fun i hi h=>by rcases h with h|h;exact h;omega)).below (by omega) (fun k hk=>by simp only [S3] at hk;omega))
 clear T B2 E2 W2
 have H2:=(H.drew).setRow 1 rfl (reA t.1.k t.1.s (.slice va vn vc) t.1.mn t.1.mx)
 have d1:=H.cell 2 0 rfl (v:=.int .i64 (a':Int)) rfl
 have d2:=H.cell 4 0 rfl (v:=.bool r) rfl
 have d3:=H.cell 5 0 rfl (v:=.string s) rfl
 have d4:=fun m=>ZaG ((H.drewN m).get 0 rfl)
 have d5:=Zes ((H.drew).get 1 rfl) (n':=t.1.k) (s':=t.1.s) (l':=.slice va vn vc) (mn':=t.1.mn) (mx':=t.1.mx) rfl
 have e1:=H2.cell 2 0 rfl (v:=.int .i64 (a':Int)) rfl
 have e2:=H2.cell 4 0 rfl (v:=.bool r) rfl
 have e3:=H2.cell 5 0 rfl (v:=.string s) rfl
 have e4:=ZaG (H2.get 0 rfl)
 cases r with
 | false =>
  have hr:res=.error a':=by
   cases rA with
   | error p=>obtain⟨-,rfl⟩:=A2;exact hres.out.symm
   | ok td=>obtain⟨t',d⟩:=td;obtain⟨h,-⟩:=A2;cases h
  refine reg37f _ _ n g g2 a' s t.1.k t.1.s (.slice va vn vc) t.1.mn t.1.mx _ rfl d1 d2 d3 d4 d5 e1 e2 e3 e4 _ _ _ _ _ _ _ _ _ _ _ _ _ _ ?_
  replace d4:=Zaa d4
  clear d1 d2 d3 d4 d5 e1 e2 e3 e4 hres
  go_wp2_with fail
  refine bodyPost_ret (Zaj rfl _ _ _ _ rfl (ZaG (H2.get 1 rfl))) rfl ?_
  refine⟨_,a',false,rfl,fin.out _ H2.but,t,keep.out _ H2.but,?_⟩
  rw [hr]
  exact⟨rfl,rfl⟩
 | true =>
  obtain⟨d,rfl,hdd⟩:∃ d,rA=.ok (t,d)/\a'=d:=by
   cases rA with
   | error p=>obtain⟨h,-⟩:=A2;cases h
   | ok td=>obtain⟨t',d⟩:=td;obtain⟨-,h2,h3,-⟩:=A2;exact⟨d,by rw [h3],h2⟩
  subst hdd
  simp only [ZlP] at hres
  obtain⟨b,hb⟩:∃ b,((a':Int) ==(s.size:Int))=b:=⟨_,rfl⟩
  refine reg37t _ _ n g g2 a' s t.1.k t.1.s (.slice va vn vc) t.1.mn t.1.mx b hb d1 d2 d3 d4 d5 e1 e2 e3 e4 _ _ _ _ _ _ _ _ _ _ _ _ _ _ ?_
  replace d4:=Zaa d4
  replace hb:=Zaa hb
  clear d1 d2 d3 d4 d5 e1 e2 e3 e4
  go_wp2_with fail
  refine bodyPost_ret (Zaj rfl _ _ _ _ rfl (ZaG (H2.get 1 rfl))) rfl ?_
  refine⟨_,a',b,rfl,fin.out _ H2.but,t,keep.out _ H2.but,?_⟩
  rw [<- hres.out]
  by_cases hq:a'=s.size
  ·rw [if_pos hq]
   exact⟨by rw [<- hb.out,hq];simp,rfl⟩
  ·rw [if_neg hq]
   exact⟨by rw [<- hb.out];exact beq_eq_false_iff_ne.2 (by omega),rfl⟩
open Go.RowKit
def zeroRe:Value:=reV 0 noSet (.slice none 0 0) 0 0
def ParseP (w:World)(s:ByteArray)(e:Ending)(w':World):Prop:=Below w.heap.size w w' /\
 (
  (256<s.size/\e=.returned (.tuple #[zeroRe,.int .i64 0,.int .i64 3])) \/
  (s.size<=256/\((∃ p,Zdh s=.error p/\e=.returned (.tuple #[zeroRe,.int .i64 (p:Int),.int .i64 100])) \/
   (∃ x t,Zdh s=.ok t/\e=.returned (.tuple #[x,.int .i64 0,.int .i64 0])/\TrV w' (fun b=>w.heap.size<=b) x t))))
theorem ZlR (s:ByteArray)(w:World)(hT:Tab w):Calls Tryz.prog 31 #[.string s] w (ParseP w s):=by
 have H:=St.start Nope w
 by_cases h256:256<s.size
 ·have i1:(256:Int)<(s.size:Int):=by omega
  go_enter Tryz.func31,Tryz.ntmps31
  go_wp2_with (first|(with_reducible refine Zae 27 ?_;refine Zap H ?_;clear H;intro g w' H q1 q2)|(with_reducible refine Zab 27 ?_;refine Zao 0 (n':=0) (s':=noSet) (l':=.slice none 0 0) (mn':=0) (mx':=0) H rfl rfl rfl rfl ?_;clear H;intro w' H))
  refine bodyPost_ret (Zaj rfl _ _ _ _ rfl (ZaG (H.get 0 rfl))) rfl ?_
  exact⟨H.below,.inl ⟨h256,rfl⟩⟩
 ·have i1:¬ ((256:Int)<(s.size:Int)):=by omega
  have hs:s.size<=256:=by omega
  replace h256:=Zaa h256
  go_enter Tryz.func31,Tryz.ntmps31
  go_wp2_with (first|(with_reducible refine Zae 27 ?_;refine Zap H ?_;clear H;intro g w' H q1 q2))
  have hT1:=hT.st H (fun _ _ h=>h)
  have hp:=hT1.pos
  have hg:=H.lti 0 rfl
  generalize hz:w'.heap.size=n at *
  refine (Zks s w' n hz).mono ?_
  rintro e w1 ⟨rfl,E1,B1⟩
  have hT2:=hT1.kept B1 (by omega)
  have hs1:=E1.lt
  go_wp2_with fail
  refine (run_any w' n (by omega) hz s hs w1 hT2 E1 B1).mono ?_
  rintro e w2 ⟨x,a',b,rfl,B2,t,T,A⟩
  have W2:=H.call B2 (by omega)
  have hs2:=B2.size
  clear H
  have H:=W2.rebase (fun k=>k=g) (fun x hx _=>by simp only [List.mem_cons,List.not_mem_nil,or_false] at hx;subst hx;rfl)
  obtain⟨va,vn,vc,hx⟩:=T.val
  subst hx
  have fin:Hid (∀ w',But (fun k=>k=g) w2 w'->Below w.heap.size w w'):=fun w' hb=>(W2.but.trans hb (fun i hi h=>by omega)).below (Nat.le_refl _) (fun k hk=>hk.elim)
  have hsz0:=W2.but.size
  have keep:Hid (∀ w',But (fun k=>k=g) w2 w'->TrV w' (fun b=>w.heap.size<=b) (reV t.1.k t.1.s (.slice va vn vc) t.1.mn t.1.mx) t):=fun w' hb =>
   ((T.mono (P':=fun b=>w.heap.size<=b/\b≠g) (fun b hb hP=>by omega)).kept (fun b hP hl=>hb.block b hl (fun h=>hP.2 h))).mono (fun b _ hP=>hP.1)
  clear T W2 B2 B1 E1 hT2 hT1
  cases hR:Zdh s with
  | error p =>
   rw [hR] at A
   obtain⟨rfl,rfl⟩:=A
   go_wp2_with (first|(with_reducible refine Zae 27 ?_;refine Zap H ?_;clear H;intro g5 w' H q1 q2)|(with_reducible refine Zab 27 ?_;first|(refine Zao 0 H rfl rfl rfl rfl ?_;clear H;intro w' H)|(refine Zao 1 (n':=0) (s':=noSet) (l':=.slice none 0 0) (mn':=0) (mx':=0) H rfl rfl rfl rfl ?_;clear H;intro w' H)))
   refine bodyPost_ret (Zaj rfl _ _ _ _ rfl (ZaG (H.get 1 rfl))) rfl ?_
   exact⟨fin.out _ H.but,.inr ⟨hs,.inl ⟨a',hR,rfl⟩⟩⟩
  | ok t' =>
   rw [hR] at A
   obtain⟨rfl,rfl⟩:=A
   go_wp2_with (first|(with_reducible refine Zae 27 ?_;refine Zap H ?_;clear H;intro g5 w' H q1 q2)|(with_reducible refine Zac 27 ?_;refine Zas 0 H rfl rfl ?_)|(with_reducible refine Zab 27 ?_;first|(refine Zao 0 H rfl rfl rfl rfl ?_;clear H;intro w' H)|(refine Zao 1 H rfl rfl rfl rfl ?_;clear H;intro w' H)))
   refine bodyPost_ret (Zaj rfl _ _ _ _ rfl (ZaG (H.get 1 rfl))) rfl ?_
   exact⟨fin.out _ H.but,.inr ⟨hs,.inr ⟨_,t,hR,rfl,keep.out _ H.but⟩⟩⟩
end
section
open Go.RowKit Go.Shelf
attribute [local go_sem] Oper.semAt_some
section
variable {F:Fence}{n:Nat}{w w':World}{ops:Array Oper}{rest:List Oper}{a:Act}{Q:Exit->Act->World->Prop}{dst:Option Nat}{x y:Operand}{ty:TypeId}{pos:String}{after:Array Edge}
theorem ZaF {op:Op}{v:Value}(hF:∀ f,F.fn f)(hd:∀ c,op≠.defer c)(hrun:(execOp a.eval ⟨dst,op,ty,pos,after,none⟩).run Tryz.prog w=.ok (.value v) w')(h:wpListIn F n Tryz.prog ops Q rest (a.put dst v) w'):wpListIn F n Tryz.prog ops Q (⟨dst,op,ty,pos,after,none⟩::rest) a w:=by
 refine wpListIn_plain rfl fun K hK=>?_
 unfold Oper.wpIn
 refine⟨fun f _=>hF f,?_⟩
 rw [Oper.semAt_plain F _ _ (fun c=>hd c),hrun]
 exact hK _ _ h
theorem Za4 {op:Op}(hF:∀ f,F.fn f)(hd:∀ c,op≠.defer c)(hrun:(execOp a.eval ⟨none,op,ty,pos,after,none⟩).run Tryz.prog w=.ok .skip w')(h:wpListIn F n Tryz.prog ops Q rest a w'):wpListIn F n Tryz.prog ops Q (⟨none,op,ty,pos,after,none⟩::rest) a w:=by
 refine wpListIn_plain rfl fun K hK=>?_
 unfold Oper.wpIn
 refine⟨fun f _=>hF f,?_⟩
 rw [Oper.semAt_plain F _ _ (fun c=>hd c),hrun]
 exact hK _ _ h
theorem Zah (t:TypeId)(h:wpListIn F n Tryz.prog ops Q (⟨dst,.load t x,ty,pos,after,none⟩::rest) a w):wpListIn F n Tryz.prog ops Q (⟨dst,.load t x,ty,pos,after,none⟩::rest) a w:=h
theorem Zbh (t:TypeId)(h:wpListIn F n Tryz.prog ops Q (⟨dst,.box t x,ty,pos,after,none⟩::rest) a w):wpListIn F n Tryz.prog ops Q (⟨dst,.box t x,ty,pos,after,none⟩::rest) a w:=h
theorem Zai (t:TypeId){ad:Addr}{v:Value}(hF:∀ f,F.fn f)(hx:a.eval x=.pointer (some ad))(hl:(loadVar t ad).run Tryz.prog w=.ok v w)(k:wpListIn F n Tryz.prog ops Q rest (a.put dst v) w):wpListIn F n Tryz.prog ops Q (⟨dst,.load t x,ty,pos,after,none⟩::rest) a w:=by
 refine ZaF hF (fun c=>nofun) ?_ k
 unfold execOp
 simp only [hx,Instr.loadAt,Instr.sureAddr,Sem.run_bind,Sem.run_pure,Result.andThen_ok,hl]
theorem ZeK (hF:∀ f,F.fn f){m:Int}{s:S4}{l:Value}{mn mx:Int}(hx:a.eval x=reV m s l mn mx)(h:∀ g w',w'.heap[g]?=some (.cells (reA m s l mn mx) 27 (0,0))->Below w.heap.size w w'->w.heap.size<=g->wpListIn F n Tryz.prog ops Q rest (a.put dst (.pointer (some ⟨g,0,none⟩))) w'):wpListIn F n Tryz.prog ops Q (⟨dst,.box 27 x,ty,pos,after,none⟩::rest) a w :=
 ZaF hF (fun c=>nofun) (ZeA _ _ _ _ _ _ m s l mn mx hx w) (h _ _ (heap_alloc_new w _) ((Below.refl _ w).alloc (Nat.le_refl _) _) (Nat.le_refl _))
theorem ZdC {d:Nat}{ty2:TypeId}{pos2:String}{after2:Array Edge}(h:wpListIn F n Tryz.prog ops Q (⟨some d,.alloc 27,ty,pos,after,none⟩::⟨none,.store 27 (.tmp d) y,ty2,pos2,after2,none⟩::rest) a w):wpListIn F n Tryz.prog ops Q (⟨some d,.alloc 27,ty,pos,after,none⟩::⟨none,.store 27 (.tmp d) y,ty2,pos2,after2,none⟩::rest) a w:=h
theorem ZdD {d:Nat}{ty2:TypeId}{pos2:String}{after2:Array Edge}(hF:∀ f,F.fn f){m:Int}{s:S4}{l:Value}{mn mx:Int}(hl:l.oneCell'=true)(hd:∀ u,(a.put (some d) u).eval (.tmp d)=u)(hy:∀ u,(a.put (some d) u).eval y=reV m s l mn mx)(h:∀ g w',w'.heap[g]?=some (.cells (reA m s l mn mx) 27 (0,0))->Below w.heap.size w w'->w.heap.size<=g->wpListIn F n Tryz.prog ops Q rest (a.put (some d) (.pointer (some ⟨g,0,none⟩))) w'):wpListIn F n Tryz.prog ops Q (⟨some d,.alloc 27,ty,pos,after,none⟩::⟨none,.store 27 (.tmp d) y,ty2,pos2,after2,none⟩::rest) a w:=by
 refine ZaF hF (fun c=>nofun) (Zez _ _ _ _ _ w) ?_
 have hg:=heap_alloc_new w (.cells (reA 0 noSet (.slice none 0 0) 0 0) 27)
 have e:=Zes hg (n':=m) (s':=s) (l':=l) (mn':=mn) (mx':=mx) hl
 refine Za4 (w':=(w.alloc (.cells (reA 0 noSet (.slice none 0 0) 0 0) 27)).setRow w.heap.size (reA m s l mn mx)) hF (fun c=>nofun) ?_ (h _ _ (setRow_heap _ _ _ _ 27 (0,0) hg) ?_ (Nat.le_refl _))
 ·unfold execOp
  simp only [hd,hy,Instr.storeAt,Instr.sureAddr,Sem.run_bind,Sem.run_pure,Result.andThen_ok,e]
 ·refine⟨rfl,rfl,rfl,by simp,fun k hk=>?_⟩
  rw [setRow_other _ _ _ _ (by omega)]
  exact Below.heap_alloc _ _ _ hk
end
def Kc (S:Nat->Prop)(W W':World):Prop:=W.heap.size<=W'.heap.size/\∀ k cs t fr,¬ S k->W.heap[k]?=some (.cells cs t fr)->W'.heap[k]?=some (.cells cs t fr)
theorem Kc.refl (S:Nat->Prop)(W:World):Kc S W W:=⟨Nat.le_refl _,fun _ _ _ _ _ h=>h⟩
theorem Kc.trans {S:Nat->Prop}{A B C:World}(h:Kc S A B)(k:Kc S B C):Kc S A C:=⟨Nat.le_trans h.1 k.1,fun i cs t fr hn e=>k.2 i cs t fr hn (h.2 i cs t fr hn e)⟩
theorem Kc.below {S:Nat->Prop}{W W':World}{B:Nat}(h:Below B W W')(hB:W.heap.size<=B):Kc S W W':=⟨h.size,fun k cs t fr _ e=>by rw [h.block k (by have:=(Array.getElem?_eq_some_iff.1 e).1;omega)];exact e⟩
theorem ZbM {S:Nat->Prop}{w w':World}{base n:Nat}{v:Value}{xs:List Value}(h:w.ownsRow base 27 8 v n xs)(hk:Kc S w w')(hb:∀ b,v.ownBlock=some b->¬ S b):w'.ownsRow base 27 8 v n xs:=by
 refine⟨h.1,?_⟩
 rcases h.2 with h1|⟨g,cap,cur,rfl,h2,h3,h4⟩
 ·exact .inl h1
 ·exact .inr ⟨g,cap,cur,rfl,h2,hk.2 g _ _ _ (hb g rfl) h3,h4⟩
theorem Kd.kc {S:Nat->Prop}{w w':World}(hk:Kc S w w'):∀ {f:Fo}{xs:List Value},Kd w (fun b=>¬ S b) f xs->Kd w' (fun b=>¬ S b) f xs
 | .nil,_,h=>h
 | .cons n kids rest,xs,⟨v,ys,zs,e,o,p,k1,k2⟩=>⟨v,ys,zs,e,ZbM o hk p,p,Kd.kc hk k1,Kd.kc hk k2⟩
def Fo.nth:Fo->Nat->Tr
 | .nil,_=>(⟨0,noSet,0,0⟩,.nil)
 | .cons n k _,0=>(n,k)
 | .cons _ _ r,i+1=>r.nth i
def Fo.szTo (f:Fo):Nat->Nat
 | 0=>0
 | i+1=>f.szTo i+szT (f.nth i)
theorem Zg3 (n:Nd)(k r:Fo):∀ i,(Fo.cons n k r).szTo (i+1)=szT (n,k)+r.szTo i
 | 0=>by simp [Fo.szTo,Fo.nth]
 | i+1=>by rw [Fo.szTo,Zg3 n k r i];simp [Fo.szTo,Fo.nth];omega
theorem Zf8:∀ f:Fo,f.szTo f.len=f.sz
 | .nil=>rfl
 | .cons n k r=>by rw [Fo.len,Zg3,Zf8 r];simp [szT,Fo.sz]
theorem Zip (f:Fo):∀ i,i<=f.len->f.szTo i<=f.sz:=by
 have mono:∀ j i,f.szTo i<=f.szTo (i+j):=fun j=>by
  induction j with
  | zero=>intro i;exact Nat.le_refl _
  | succ j ih=>intro i;have:=ih i;show _<=f.szTo (i+j)+_;omega
 intro i hi
 have:=mono (f.len - i) i
 rw [show i+(f.len - i)=f.len by omega,Zf8] at this
 exact this
def AllF (Pr:Nat->Nd->Nat->Prop):Nat->Fo->Prop
 | _,.nil=>True
 | d,.cons n k r=>Pr d n k.len/\AllF Pr (d+1) k/\AllF Pr d r
theorem AllF.nth {Pr:Nat->Nd->Nat->Prop}{d:Nat}:∀ {f:Fo},AllF Pr d f->∀ i,i<f.len->Pr d (f.nth i).1 (f.nth i).2.len/\AllF Pr (d+1) (f.nth i).2
 | .nil,_,i,h=>by simp [Fo.len] at h
 | .cons n k r,⟨h1,h2,h3⟩,0,_=>⟨h1,h2⟩
 | .cons n k r,⟨h1,h2,h3⟩,i+1,h=>AllF.nth h3 i (by simpa [Fo.len] using h)
theorem Kd.nth {w:World}{P:Nat->Prop}:∀ {f:Fo}{xs:List Value},Kd w P f xs->∀ i,i<f.len->∃ v zs,(∀ j u,(reA (f.nth i).1.k (f.nth i).1.s v (f.nth i).1.mn (f.nth i).1.mx)[j]?=some u->xs[i * 8+j]?=some u)/\w.ownsRow 0 27 8 v (f.nth i).2.len zs/\(∀ b,v.ownBlock=some b->P b)/\Kd w P (f.nth i).2 zs
 | .nil,_,_,i,h=>by simp [Fo.len] at h
 | .cons n k r,xs,⟨v,ys,zs,e,o,p,k1,k2⟩,0,_=>⟨v,zs,fun j u hj=>by
   rw [e,Nat.zero_mul,Nat.zero_add]
   have hj':j<8:=by
    have:=(Array.getElem?_eq_some_iff.1 hj).1
    simpa [reA] using this
   rw [List.getElem?_append_left (by simp [reA];exact hj')]
   simpa [Fo.nth] using hj,o,p,k1⟩
 | .cons n k r,xs,⟨v,ys,zs,e,o,p,k1,k2⟩,i+1,h=>by
   obtain⟨v',zs',h1,h2⟩:=Kd.nth k2 i (by simpa [Fo.len] using h)
   refine⟨v',zs',fun j u hj=>?_,h2⟩
   rw [e,List.getElem?_append_right (by simp [reA];omega)]
   have:=h1 j u hj
   simp only [reA,List.length_cons,List.length_nil]
   rw [show (i+1) * 8+j - (0+1+1+1+1+1+1+1+1)=i * 8+j by omega]
   exact this
structure Em (Pr:Nat->Nd->Nat->Prop) where
 d:Nat
 nd:Nd
 ad:Option Addr
 len:Nat
 cap:Nat
 h:Pr d nd len
def encE {Pr:Nat->Nd->Nat->Prop}(e:Em Pr):Array Value:=#[.int .i64 (e.d:Int),reV e.nd.k e.nd.s (.slice e.ad e.len e.cap) e.nd.mn e.nd.mx]
theorem ZbV {w w':World}(hb:Below w.heap.size w w'):w.grownBy w' none:=⟨hb.os,hb.tape,hb.output,hb.size,fun k hk _=>hb.block k hk⟩
theorem Za5 {β:Type}{B:Nat}{J:β->World->Prop}(h:AbidesFrom B J){s:β}{w w':World}(hs:J s w)(hb:Below w.heap.size w w'):J s w':=h s w w' none hs (ZbV hb) (fun r e=>by cases e)
theorem ZbW {m m':Nat}{l:Nat}{args:Array Value}{W:World}{R:Ending->World->Prop}(h:YieldAt Fence.wide m Tryz.prog l args W R):YieldAt Fence.wide m' Tryz.prog l args W R:=by
 obtain⟨fn,tmps,assign,body,h1,h2,h3⟩:=h
 exact⟨fn,tmps,assign,body,h1,h2,fun c cs _=>h3 c cs (room_wide _)⟩
open Go.RowKit Go.Shelf
attribute [local go_sem] Oper.semAt_some
theorem Zal {w:World}{g:Nat}{xs:Array Value}{t:TypeId}(h:w.heap[g]?=some (.cells xs t (0,0)))(j:Nat){v:Value}(hv:xs[j]?=some v):w.cell? ⟨g,j,none⟩=some v:=by rw [cell_of_row w g j _ t (0,0) h];exact hv
theorem Zad (f:FuncId):Fence.wide.fn f:=by simp [Fence.wide]
theorem Zan (l:Nat)(f:FuncId):(Fence.wide.inRound l).fn f:=by simp [Fence.wide,Fence.inRound]
theorem Zcr:∀ f:Fo,f.len<=f.sz
 | .nil=>Nat.le_refl _
 | .cons n k r=>by have:=Zcr r;simp only [Fo.len,Fo.sz];omega
def GiveP {Pr:Nat->Nd->Nat->Prop}(S:Nat->Prop)(J Jx:List (Em Pr)->World->Prop)(pre:List (Em Pr))(k:Nat)(W:World)(e:Ending)(W':World):Prop :=
 (e=.returned (.bool true)/\(∃ xs,xs.length=k/\J (pre++xs) W')/\Kc S W W')\/(e=.returned (.bool false)/\∃ p,Jx p W')
set_option maxRecDepth 100000 in
theorem give_in {Pr:Nat->Nd->Nat->Prop}(S:Nat->Prop)(l Y G B0:Nat)(J Jx:List (Em Pr)->World->Prop)(B:Nat)(hAJ:AbidesFrom B J)(NN:Nat)
  (hYY:∀ m pre x W1,J pre W1->pre.length<NN->YieldAt Fence.wide m Tryz.prog l (encE x) W1 fun e W'=>(e=.returned (.bool true)/\J (pre++[x]) W'/\Kc S W1 W')\/(e=.returned (.bool false)/\Jx (pre++[x]) W'))
  (hYS:¬ S Y) (hGS:¬ S G) (hS:∀ k,B0<=k->¬ S k) :
  ∀ N nd kids,szT (nd,kids)<=N->∀ (n d:Nat) (W:World) (pre:List (Em Pr)) (v:Value) (zs:List Value),Hid (Pr d nd kids.len)->AllF Pr (d+1) kids->W.ownsRow 0 27 8 v kids.len zs->(∀ b,v.ownBlock=some b->¬ S b)->Kd W (fun b=>¬ S b) kids zs ->
   W.heap[Y]?=some (.cells #[.func (.yield l) #[] #[]] 238 (0,0))->W.heap[G]?=some (.cells #[.func (.func 180) #[] #[.pointer (some ⟨Y,0,none⟩),.pointer (some ⟨G,0,none⟩)]] 238 (0,0))->Hid (J pre W)->pre.length+szT (nd,kids)<=NN->d+szT (nd,kids)<=10000->B0<=W.heap.size ->
   CallsIn Fence.wide n Tryz.prog 180 #[.int .i64 (d:Int),reV nd.k nd.s v nd.mn nd.mx,.pointer (some ⟨Y,0,none⟩),.pointer (some ⟨G,0,none⟩)] W (GiveP S J Jx pre (szT (nd,kids)) W):=by
 intro N
 induction N with
 | zero=>intro nd kids h;simp [szT] at h
 | succ N ih =>
  intro nd kids hN n d W pre v zs hPr hA ho hp hk hYb hGb hJ hNN hd hB0
  obtain⟨ad,cap,rfl,hc1,hc2⟩:=ZaR ho
  have hpos:1<=szT (nd,kids):=by simp [szT]
  have hlen:kids.len<=10000:=by have:=Zcr kids;simp only [szT] at hd;omega
  have hAJ':=Zaa hAJ
  replace hA:=Zaa hA
  replace hp:=Zaa hp
  replace hk:=Zaa hk
  replace hS:=Zaa hS
  replace ih:=Zaa ih
  replace ho:=Zaa ho
  replace hYYh:=Zaa hYY
  refine callsIn_of_wp Tryz.func180 rfl trivial ?_ rfl
  simp only [Tryz.ntmps180,List.size_toArray,List.length_cons,List.length_nil,Nat.reduceAdd,Nat.reduceSub,Array.replicate_succ,Array.replicate_zero,List.push_toArray,List.append_toArray,List.nil_append,List.cons_append]
  gi_wp2_with (first|((with_reducible refine Zbh 27 ?_);go_loud (refine ZeK Zad rfl ?_;intro g5 w1 hb5 B1 hge;have hJ1:=Za5 hAJ hJ.out B1;have hc1:=Kc.below (S:=S) B1 (Nat.le_refl _);have hY1:=hc1.2 Y _ _ _ hYS hYb;have cY:=Zal hY1 0 (v:=.func (.yield l) #[] #[]) rfl;obtain⟨fn,tmps,assign,body,hy,hR⟩:=hYY (n - 1) pre ⟨d,nd,ad,kids.len,cap,hPr.out⟩ w1 hJ1 (by omega);simp only [encE] at hy;replace hb5:=Zaa hb5;replace B1:=Zaa B1;replace hJ1:=Zaa hJ1;replace hc1:=Zaa hc1;replace hY1:=Zaa hY1))|((with_reducible refine Zah 238 ?_);refine Zai 238 Zad rfl (ld70 cY) ?_)|((with_reducible refine Zah 27 ?_);refine Zai 27 Zad rfl (ZaG hb5.out) ?_))
  refine⟨fun h=>(by cases h),hR.mono ?_⟩
  rintro e W3 (⟨rfl,hJ3,hk3⟩|⟨rfl,hJx3⟩)
  ·have hcc:Hid (Kc S W W3):=hc1.out.trans hk3
   have hb3:Hid (W3.heap[g5]?=some (.cells (reA nd.k nd.s (.slice ad kids.len cap) nd.mn nd.mx) 27 (0,0))):=hk3.2 g5 _ _ _ (hS.out g5 (by omega)) hb5.out
   have cL:=Zal hb3.out 5 (v:=.slice ad kids.len cap) rfl
   have hG3:=Zaa (hcc.out.2 G _ _ _ hGS hGb)
   have hs3:=hcc.out.1
   have ho3:=Zaa (ZbM ho.out hcc.out hp.out)
   have hkd3:=Zaa (Kd.kc hcc.out hk.out)
   replace hk3:=Zaa hk3
   replace hJ3:=Zaa hJ3
   clear hy hR cY
   gi_wp2_with (first|((with_reducible refine Zah 25 ?_);refine Zai 25 Zad rfl (ld26 cL) ?_))
   gi_loopw [17] (fun i wr=>∃ k xs,i=.int .i64 ((k:Nat):Int)/\k<=kids.len/\Hid (xs.length=1+kids.szTo k)/\Hid (J (pre++xs) wr)/\Hid (Kc S W3 wr)) (fun i _=>kids.len - (intOf i).toNat)
   case atStart=>exact⟨0,[⟨d,nd,ad,kids.len,cap,hPr.out⟩],rfl,Nat.zero_le _,(rfl:_=_),hJ3,Kc.refl _ _⟩
   case round =>
    obtain⟨k,xs,rfl,hkl,hxs,hJr,hkr⟩:=hrel
    by_cases hlt:k<kids.len
    ·have i1:(k:Int)<(kids.len:Int):=by omega
     have hltH:=Zaa hlt
     have hor:=ZbM ho3.out hkr.out hp.out
     have hkdr:=Kd.kc hkr.out hkd3.out
     obtain⟨cv,czs,hcells,cho,chp,chk⟩:=Kd.nth hkdr k hlt
     obtain⟨cPr,cA⟩:=AllF.nth hA.out k hlt
     have hsz1:=Zip kids (k+1) (by omega)
     have hsz2:kids.szTo (k+1)=kids.szTo k+szT (kids.nth k):=rfl
     generalize kids.nth k=ch at hcells cho chp chk cPr cA hsz2
     obtain⟨cnd,ckids⟩:=ch
     simp only at hcells cho chp chk cPr cA
     have hb:∃ b,ad=some ⟨b,0,none⟩/\∀ j u,(reA cnd.k cnd.s cv cnd.mn cnd.mx)[j]?=some u->wr.cell? ⟨b,k * 8+j,none⟩=some u:=by
      rcases hor.2 with⟨h1,h2⟩|⟨g,cap',cur,hv,_⟩
      ·omega
      ·cases hv
       refine⟨g,rfl,fun j u hj=>?_⟩
       have:=hor.cells (g:=g) rfl _ _ (hcells j u hj)
       rwa [Zav,Nat.zero_add] at this
     obtain⟨b,rfl,hcell⟩:=hb
     obtain⟨ca,cc,hcv,_,_⟩:=ZaR cho
     subst hcv
     have hl28:=Zaa (ZdT hcell)
     have hsz3:szT (nd,kids)=1+kids.sz:=rfl
     have hGr:=hkr.out.2 G _ _ _ hGS hG3.out
     have hYr:=hkr.out.2 Y _ _ _ hYS (hk3.out.2 Y _ _ _ hYS hY1.out)
     have hsr:=hkr.out.1
     have hxl:=hxs.out
     replace hcells:=Zaa hcells
     replace hcell:=Zaa hcell
     replace cho:=Zaa cho
     replace chp:=Zaa chp
     replace chk:=Zaa chk
     replace cPr:=Zaa cPr
     replace cA:=Zaa cA
     replace hor:=Zaa hor
     replace hkdr:=Zaa hkdr
     replace hGr:=Zaa hGr
     replace hYr:=Zaa hYr
     gi_wp2_with (first|((with_reducible refine Zah 27 ?_);refine Zai 27 Zad rfl (hl28.out) ?_)|((with_reducible refine ZdC ?_);refine ZdD Zad rfl (fun _=>rfl) (fun _=>rfl) ?_;intro g8 w8 hb8 B8 hg8;have hk8:=Zaa (Kc.below (S:=S) B8 (Nat.le_refl _));have cG:=Zal (hk8.out.2 G _ _ _ hGS hGr.out) 0 (v:=.func (.func 180) #[] #[.pointer (some ⟨Y,0,none⟩),.pointer (some ⟨G,0,none⟩)]) rfl;have hl8:=Zaa (ZaG hb8);replace hb8:=Zaa hb8;replace B8:=Zaa B8)|((with_reducible refine Zah 238 ?_);refine Zai 238 Zad rfl (ld70 cG) ?_)|((with_reducible refine Zah 27 ?_);refine Zai 27 Zad rfl (hl8.out) ?_))
     have hs8:=B8.out.size
     refine⟨trivial,fun h=>(by cases h),(ih.out cnd ckids (by omega) _ (d+1) w8 (pre++xs) _ czs cPr.out cA.out (ZbM cho.out hk8.out chp.out) chp.out (Kd.kc hk8.out chk.out) (hk8.out.2 Y _ _ _ hYS hYr.out) (hk8.out.2 G _ _ _ hGS hGr.out) (Za5 hAJ hJr.out B8.out) (by rw [List.length_append];omega) (by omega) (by omega)).mono ?_⟩
     rintro e W9 (⟨rfl,⟨ys,hys,hJ9⟩,hk9⟩|⟨rfl,p,hJx9⟩)
     ·have hJ10:Hid (J (pre++(xs++ys)) W9):=by
       have:=hJ9
       rw [List.append_assoc] at this
       exact this
      have hk10:Hid (Kc S W3 W9):=hkr.out.trans (hk8.out.trans hk9)
      have hl10:Hid ((xs++ys).length=1+kids.szTo (k+1)):=by
       show (xs++ys).length=_
       rw [List.length_append,hxl,hys,hsz2];omega
      clear hJ9 hk9 hys
      gi_wp2
      go_roundw
      case rel=>exact⟨k+1,xs++ys,by go_num,hltH.out,hl10,hJ10,hk10⟩
      case measure=>have:=hltH.out;simp [intOf];omega
     ·gi_wp2
      go_ret
      exact .inr ⟨rfl,_,hJx9⟩
    ·obtain rfl:k=kids.len:=by omega
     gi_wp2
     go_ret
     exact .inl ⟨rfl,⟨xs,by rw [hxs.out,Zf8];rfl,hJr.out⟩,hcc.out.trans hkr.out⟩
  ·gi_wp2
   go_ret
   exact .inr ⟨rfl,_,hJx3⟩
theorem Zg4 (n:Nat)(k:Int)(s:S4)(l:Value)(mn mx:Int)(w:World) :
  CallsIn Fence.wide n Tryz.prog 128 #[reV k s l mn mx] w fun e w'=>∃ g,e=.returned (.func (.func 179) #[] #[.pointer (some ⟨g,0,none⟩)])/\w'.heap[g]?=some (.cells (reA k s l mn mx) 27 (0,0))/\Below w.heap.size w w'/\w.heap.size<=g:=by
 have hmf:∀ (fn:Fn) (first cap:Array Value) (w:World),(Instr.makeFunc fn first cap).run Tryz.prog w=.ok (.func fn first cap) w:=fun _ _ _ _=>rfl
 refine callsIn_of_wp Tryz.func128 rfl trivial ?_ rfl
 simp only [Tryz.ntmps128,List.size_toArray,List.length_cons,List.length_nil,Nat.reduceAdd,Nat.reduceSub,Array.replicate_succ,Array.replicate_zero,List.push_toArray,List.append_toArray,List.nil_append,List.cons_append]
 gi_wp2_with (first|((with_reducible refine Zbh 27 ?_);refine ZeK Zad rfl ?_;intro g w1 hb B1 hge;replace hb:=Zaa hb))
 go_ret
 exact⟨g,rfl,hb.out,B1,hge⟩
theorem run_st70 {w:World}{g:Nat}{u:Value}{f:Fn}{xs ys:Array Value}(h:w.heap[g]?=some (.cells #[u] 238 (0,0))):(storeVar 238 ⟨g,0,none⟩ (.func f xs ys)).run Tryz.prog w=.ok () (w.setCell ⟨g,0,none⟩ (.func f xs ys)):=by
 have hc:=Zal h 0 (v:=u) rfl
 have hf:=frozen_of_row w g 0 _ 238 h
 have e:(storeCells ⟨g,0,none⟩ [.func f xs ys]).run Tryz.prog w=.ok () (w.setCell ⟨g,0,none⟩ (.func f xs ys)):=by simp [storeCells,go_sem,run_store Tryz.prog w _ (.func f xs ys) _ rfl,stored,hc,hf]
 have o70:∀ w,(sizeOf 238).run Tryz.prog w=.ok 1 w:=fun w=>by kernel_rfl
 have e4:(Value.func f xs ys).cells=#[.func f xs ys]:=rfl
 unfold storeVar
 simp only [Sem.run_bind,o70,Result.andThen_ok,e4]
 simpa using e
section
variable {F:Fence}{n:Nat}{w w':World}{ops:Array Oper}{rest:List Oper}{a:Act}{Q:Exit->Act->World->Prop}{dst:Option Nat}{x y:Operand}{ty:TypeId}{pos:String}{after:Array Edge}
theorem Zg5 (hF:∀ f,F.fn f){f:Fn}{xs ys:Array Value}(hx:a.eval x=.func f xs ys)(h:∀ g w',w'.heap[g]?=some (.cells #[.func f xs ys] 238 (0,0))->Below w.heap.size w w'->w.heap.size<=g->wpListIn F n Tryz.prog ops Q rest (a.put dst (.pointer (some ⟨g,0,none⟩))) w'):wpListIn F n Tryz.prog ops Q (⟨dst,.box 238 x,ty,pos,after,none⟩::rest) a w:=by
 have e:(execOp a.eval ⟨dst,.box 238 x,ty,pos,after,none⟩).run Tryz.prog w=.ok (.value (.pointer (some ⟨w.heap.size,0,none⟩))) (w.alloc (.cells #[.func f xs ys] 238)):=by
  unfold execOp
  simp only [hx]
  kernel_rfl
 exact ZaF hF (fun c=>nofun) e (h _ _ (heap_alloc_new w _) ((Below.refl _ w).alloc (Nat.le_refl _) _) (Nat.le_refl _))
theorem ZaO (t:TypeId)(h:wpListIn F n Tryz.prog ops Q (⟨dst,.alloc t,ty,pos,after,none⟩::rest) a w):wpListIn F n Tryz.prog ops Q (⟨dst,.alloc t,ty,pos,after,none⟩::rest) a w:=h
theorem Zay (t:TypeId)(h:wpListIn F n Tryz.prog ops Q (⟨none,.store t x y,ty,pos,after,none⟩::rest) a w):wpListIn F n Tryz.prog ops Q (⟨none,.store t x y,ty,pos,after,none⟩::rest) a w:=h
theorem ZeL (hF:∀ f,F.fn f)(h:∀ g w',w'.heap[g]?=some (.cells #[.nilFunc] 238 (0,0))->Below w.heap.size w w'->w.heap.size<=g->wpListIn F n Tryz.prog ops Q rest (a.put dst (.pointer (some ⟨g,0,none⟩))) w'):wpListIn F n Tryz.prog ops Q (⟨dst,.alloc 238,ty,pos,after,none⟩::rest) a w :=
 ZaF hF (fun c=>nofun) (Zio w) (h _ _ (heap_alloc_new w _) ((Below.refl _ w).alloc (Nat.le_refl _) _) (Nat.le_refl _))
theorem Zjx (hF:∀ f,F.fn f){g:Nat}{u:Value}{f:Fn}{xs ys:Array Value}(hg:w.heap[g]?=some (.cells #[u] 238 (0,0)))(hx:a.eval x=.pointer (some ⟨g,0,none⟩))(hy:a.eval y=.func f xs ys)(h:∀ w',w'.heap[g]?=some (.cells #[.func f xs ys] 238 (0,0))->But (fun k=>k=g) w w'->wpListIn F n Tryz.prog ops Q rest a w'):wpListIn F n Tryz.prog ops Q (⟨none,.store 238 x y,ty,pos,after,none⟩::rest) a w:=by
 refine Za4 (w':=w.setCell ⟨g,0,none⟩ (.func f xs ys)) hF (fun c=>nofun) ?_ (h _ ?_ ?_)
 ·unfold execOp
  simp only [hx,hy,Instr.storeAt,Instr.sureAddr,Sem.run_bind,Sem.run_pure,Result.andThen_ok,run_st70 hg]
 ·exact heap_setCell_same w g 0 _ 238 _ hg
 ·exact⟨rfl,rfl,rfl,by simp [World.setCell],fun k hk hn=>Below.heap_setCell w ⟨g,0,none⟩ _ k hn⟩
end
set_option maxRecDepth 100000 in
theorem Zg6 {Pr:Nat->Nd->Nat->Prop}(S:Nat->Prop)(n:Nat)(B:Nat)(t:Tr)(v:Value)(zs:List Value)(w:World)(hB:w.heap[B]?=some (.cells (reA t.1.k t.1.s v t.1.mn t.1.mx) 27 (0,0)))(ho:w.ownsRow 0 27 8 v t.2.len zs)(hp:∀ b,v.ownBlock=some b->¬ S b)(hk:Kd w (fun b=>¬ S b) t.2 zs)(hPr:Pr 1 t.1 t.2.len)(hA:AllF Pr 2 t.2)(hsz:szT t<=9000)(hBS:¬ S B)(hS:∀ k,w.heap.size<=k->¬ S k) :
  SeqStopsK Fence.wide n Tryz.prog 179 #[.pointer (some ⟨B,0,none⟩)] (encE (Pr:=Pr)) (Kc S) (fun xs=>xs.length=szT t) (fun _=>True) (szT t) w:=fun l J Jx W hW hAJ hAJx hYY h0=>by
 obtain⟨nd,kids⟩:=t
 simp only at *
 have hmf:∀ (fn:Fn) (first cap:Array Value) (w:World),(Instr.makeFunc fn first cap).run Tryz.prog w=.ok (.func fn first cap) w:=fun _ _ _ _=>rfl
 have hBl:B<w.heap.size:=(Array.getElem?_eq_some_iff.1 hB).1
 have hsw:=hW.size
 have kW:Hid (Kc S w W):=Kc.below hW (Nat.le_refl _)
 obtain⟨va,vc,hv,_,_⟩:=ZaR ho
 subst hv
 replace hYY:Hid _:=Zaa hYY
 replace ho:=Zaa ho
 replace hp:=Zaa hp
 replace hk:=Zaa hk
 replace hPr:=Zaa hPr
 replace hA:=Zaa hA
 replace hS:=Zaa hS
 replace hW:=Zaa hW
 replace hAJh:=Zaa hAJ
 replace h0:=Zaa h0
 show CallsIn Fence.wide n Tryz.prog 179 #[.func (.yield l) #[] #[],.pointer (some ⟨B,0,none⟩)] W _
 refine callsIn_of_wp Tryz.func179 rfl trivial ?_ rfl
 simp only [Tryz.ntmps179,List.size_toArray,List.length_cons,List.length_nil,Nat.reduceAdd,Nat.reduceSub,Array.replicate_succ,Array.replicate_zero,List.push_toArray,List.append_toArray,List.nil_append,List.cons_append]
 gi_wp2_with (first|((with_reducible refine Zbh 238 ?_);refine Zg5 Zad rfl ?_;intro Y w1 hbY B1 hgY;replace hbY:=Zaa hbY;replace B1:=Zaa B1)|((with_reducible refine ZaO 238 ?_);refine ZeL Zad ?_;intro G w2 hbG B2 hgG;replace hbG:=Zaa hbG;replace B2:=Zaa B2)|((with_reducible refine Zay 238 ?_);refine Zjx Zad hbG.out rfl rfl ?_;intro w3 hbG3 B3;have hs1:=B1.out.size;have hs2:=B2.out.size;have hl1:=(Array.getElem?_eq_some_iff.1 hbY.out).1;have hY2:Hid (w2.heap[Y]?=some (.cells #[.func (.yield l) #[] #[]] 238 (0,0))):=(B2.out.block Y hl1).trans hbY.out;have hY3:Hid (w3.heap[Y]?=some (.cells #[.func (.yield l) #[] #[]] 238 (0,0))):=(B3.block Y (by omega) (by omega)).trans hY2.out;have BW:Hid (Below W.heap.size W w3):=(B1.out.trans (B2.out.mono hs1)).trans (B3.below (by omega) (fun k e=>by omega));have k3:Hid (Kc S w w3):=kW.out.trans (Kc.below BW.out (Nat.le_refl _));have hB3:=k3.out.2 B _ _ _ hBS hB;have cG:=Zal hbG3 0 (v:=.func (.func 180) #[] #[.pointer (some ⟨Y,0,none⟩),.pointer (some ⟨G,0,none⟩)]) rfl;replace hbG3:=Zaa hbG3;have hl28:=Zaa (ZaG hB3);replace hB3:=Zaa hB3;replace B3:=Zaa B3)|((with_reducible refine Zah 238 ?_);refine Zai 238 Zad rfl (ld70 cG) ?_)|((with_reducible refine Zah 27 ?_);refine Zai 27 Zad rfl (hl28.out) ?_))
 have hs3:=BW.out.size
 refine⟨trivial,fun h=>(by cases h),(give_in S l Y G w.heap.size J Jx W.heap.size hAJ (szT (nd,kids)) (fun m pre x W1 hj hl=>ZbW (hYY.out pre x W1 hj hl)) (hS.out Y (by omega)) (hS.out G (by omega)) hS.out (szT (nd,kids)) nd kids (Nat.le_refl _) _ 1 w3 [] _ zs hPr.out hA.out (ZbM ho.out k3.out hp.out) hp.out (Kd.kc k3.out hk.out) hY3.out hbG3.out (Za5 hAJ h0.out BW.out) (by simp) (by omega) (by omega)).mono ?_⟩
 rintro e W9 (⟨rfl,⟨ys,hys,hJ9⟩,hk9⟩|⟨rfl,p,hJx9⟩)
 ·replace hJ9:=Zaa hJ9
  clear hk9
  gi_wp2
  go_end0
  exact⟨⟨_,rfl⟩,.inl ⟨ys,hys,by simpa using hJ9.out⟩⟩
 ·replace hJx9:=Zaa hJx9
  gi_wp2
  go_end0
  exact⟨⟨_,rfl⟩,.inr ⟨p,trivial,hJx9.out⟩⟩
end
section
open Go.RowKit
theorem clo38:Clo 107:=fun args w=>by kernel_rfl
theorem clo62:Clo 160:=fun args w=>by kernel_rfl
theorem Ziq:∀ (f:Fo)(k:Nat),k<f.len->f.cds[k]?=some (cdT (f.nth k))
 | .nil,k,h=>by simp [Fo.len] at h
 | .cons n kk r,0,_=>rfl
 | .cons n kk r,k+1,h=>by
  have:=Ziq r k (by simpa [Fo.len] using h)
  simpa [Fo.cds,Fo.nth] using this
theorem ZeM:∀ (f:Fo)(k:Nat),k<f.len->f.fit->ZcF (f.nth k)
 | .nil,k,h,_=>by simp [Fo.len] at h
 | .cons n kk r,0,_,h=>⟨h.1,h.2.1⟩
 | .cons n kk r,k+1,h,hf=>ZeM r k (by simpa [Fo.len] using h) hf.2.2
theorem Zjy (f:Fo)(k:Nat)(h:k<f.len):szT (f.nth k)<=f.sz:=by
 have h1:=Zip f (k+1) (by omega)
 have h2:f.szTo (k+1)=f.szTo k+szT (f.nth k):=rfl
 omega
theorem ZlS {w:World}{g:Nat}{k:Int}{s:S4}{v:Value}{mn mx:Int}(h:w.heap[g]?=some (.cells (reA k s v mn mx) 27 (0,0))):(loadVar 24 ⟨g,1,none⟩).run Tryz.prog w=.ok (Zbf s) w:=by
 refine Zh5 (fun q hq=>?_)
 rw [cell_of_row w g (1+q) _ 27 (0,0) h]
 rcases (show q=0\/q=1\/q=2\/q=3 by omega) with rfl|rfl|rfl|rfl <;> rfl
theorem store54 {w:World}{g z z':Nat}{f f':Value}(h:w.heap[g]?=some (.cells (cdA z f) 121 (0,0)))(hf:f'.oneCell'=true):(storeVar 121 ⟨g,0,none⟩ (cdV z' f')).run Tryz.prog w=.ok () (w.setRow g (cdA z' f')) :=
 run_storeVar_row w g 121 121 _ _ h sizeC rfl (by have h1:∀ k n,(Value.int k n).oneCell'=true:=fun _ _=>rfl;simp [cdA,hf,h1])
theorem Zf9 (w:World)(g o z:Nat)(f:Value)(cur:Array Value)(hg:w.heap[g]?=some (.cells cur 121 (0,0)))(hf:f.oneCell'=true)(hfit:o+2<=cur.size):(storeVar 121 ⟨g,o,none⟩ (cdV z f)).run Tryz.prog w=.ok () (w.setRow g (cur.toList.take o++[.int .i64 (z:Int),f]++cur.toList.drop (o+2)).toArray):=by
 have hst:=run_storeCells_at Tryz.prog g o 121 [.int .i64 (z:Int),f] 0 cur w hg (by simpa using hfit) (fun v hv=>by
  simp only [List.mem_cons,List.not_mem_nil,or_false] at hv
  rcases hv with rfl|rfl
  ·rfl
  ·exact hf)
 have hz:∀ w,(sizeOf 121).run Tryz.prog w=.ok 2 w:=fun w=>by kernel_rfl
 have hcs:(cdV z f).cells=#[.int .i64 (z:Int),f]:=rfl
 unfold storeVar
 simp only [Sem.run_bind,hz,Result.andThen_ok,hcs]
 simpa using hst
section
variable {S:Nat->Prop}{w0 w w':World}{L:List Ent}{ops:Array Oper}{rest:List Oper}{o:Oper}{a:Act}{Q:Exit->Act->World->Prop}{K:Act->World->Prop}{E:Prop}{dst:Option Nat}{x y:Operand}{ty ty2:TypeId}{pos pos2:String}{after after2:Array Edge}
theorem Zg7 (t:TypeId)(ho:o.op=.store t x y){ad:Addr}{v:Value}(hx:a.eval x=.pointer (some ad))(hy:a.eval y=v)(hst:(storeVar t ad v).run Tryz.prog w=.ok () w')(h:K (a.put o.dst undef) w'):o.wp Tryz.prog a w K Q:=by
 unfold Oper.wp execOp
 simp only [ho,hx,hy,Instr.storeAt,Instr.sureAddr,Sem.run_bind,Sem.run_pure,Result.andThen_ok,hst]
 exact h
theorem ZaQ (t:TypeId){ad:Addr}{v:Value}(hx:a.eval x=.pointer (some ad))(hy:a.eval y=v)(hst:(storeVar t ad v).run Tryz.prog w=.ok () w')(h:wpList Tryz.prog ops Q rest a w'):wpList Tryz.prog ops Q (⟨none,.store t x y,ty,pos,after,none⟩::rest) a w:=by
 refine wpList_plain rfl fun K hK=>?_
 exact Zg7 t rfl hx hy hst (hK _ _ h)
theorem ZlT {p:Operand}{ts:Array TypeId}{k:Nat}{caps:Array Value}{u1:Value}(ho:o=⟨dst,.call { callee:=.value x,args:=#[p],argTypes:=ts },ty,pos,after,none⟩)(hx:a.eval x=.func (.func k) #[] caps)(hp:a.eval p=u1)(hc:Clo k)
  (h:Calls Tryz.prog k (#[u1]++caps) w fun e w'=>∃ u,e=.returned u/\K (a.put dst u) w'):if Region.wanted o (yielded ops a.tmps)=true then Oper.wp Tryz.prog o a w K Q else E:=Zf5 ho hx (by simp [hp]) hc h
theorem ZlU {p q r:Operand}{ts:Array TypeId}{k:Nat}{caps:Array Value}{u1 u2 u3:Value}(ho:o=⟨dst,.call { callee:=.value x,args:=#[p,q,r],argTypes:=ts },ty,pos,after,none⟩)(hx:a.eval x=.func (.func k) #[] caps)(hp:a.eval p=u1)(hq:a.eval q=u2)(hr:a.eval r=u3)(hc:Clo k)
  (h:Calls Tryz.prog k (#[u1,u2,u3]++caps) w fun e w'=>∃ u,e=.returned u/\K (a.put dst u) w'):if Region.wanted o (yielded ops a.tmps)=true then Oper.wp Tryz.prog o a w K Q else E:=Zf5 ho hx (by simp [hp,hq,hr]) hc h
end
def CiR (R:Nat->Prop)(gl n:Nat)(cs:List Cd)(k:Nat)(W:World):Prop:=∃ xs,W.heap[gl]?=some (.cells (xs++rp2 (.int .i64 0) .nilFunc (n - k)).toArray 121 (0,0))/\Cs cap R W (cs.take k) xs/\xs.length=k * 2
theorem CiR.start {R:Nat->Prop}{gl n:Nat}{cs:List Cd}{W:World}(h:W.heap[gl]?=some (.cells (rp2 (.int .i64 0) .nilFunc n).toArray 121 (0,0))):CiR R gl n cs 0 W:=⟨[],by simpa using h,rfl,rfl⟩
theorem CiR.below {R:Nat->Prop}{gl n:Nat}{cs:List Cd}{k:Nat}{W W':World}(h:CiR R gl n cs k W)(hb:Below W.heap.size W W'):CiR R gl n cs k W':=by
 obtain⟨xs,h1,h2,h3⟩:=h
 exact⟨xs,(hb.block gl (Array.getElem?_eq_some_iff.1 h1).1).trans h1,h2.mono ((Kp.refl _ _).below hb) (fun _ h=>.inl h),h3⟩
theorem CiR.put {R:Nat->Prop}{gl n:Nat}{cs:List Cd}{k:Nat}{W:World}{z:Nat}{f:Value}{c:Cd}(h:CiR R gl n cs k W)(hR:R gl)(hk:k<n)(hc:cs[k]?=some c)(C:CdOk cap R W z f c):∃ W',(storeVar 121 ⟨gl,k * 2,none⟩ (cdV z f)).run Tryz.prog W=.ok () W'/\CiR R gl n cs (k+1) W'/\But (fun j=>j=gl) W W':=by
 obtain⟨xs,h1,h2,h3⟩:=h
 have e:rp2 (.int .i64 0) .nilFunc (n - k)=rp2 (.int .i64 0) .nilFunc 1++rp2 (.int .i64 0) .nilFunc (n - (k+1)):=by rw [<- ZdY];congr 1;omega
 have hl:=ZbU (.int .i64 0) .nilFunc (n - k)
 have hb:But (fun j=>j=gl) W (W.setRow gl ((xs++rp2 (.int .i64 0) .nilFunc (n - k)).toArray.toList.take (k * 2)++[.int .i64 (z:Int),f]++(xs++rp2 (.int .i64 0) .nilFunc (n - k)).toArray.toList.drop (k * 2+2)).toArray):=(But.refl (fun j=>j=gl) W).setRow (fun _=>rfl) _
 refine⟨_,Zf9 W gl (k * 2) z f _ h1 C.put.one (by simp;omega),⟨xs++[.int .i64 (z:Int),f],?_,?_,by simp [h3];omega⟩,hb⟩
 ·rw [setRow_heap W gl _ _ 121 (0,0) h1]
  congr 2
  simp only [List.toList_toArray]
  rw [List.take_append_of_le_length (by omega),List.take_of_length_le (by omega),List.drop_append,h3,e]
  rw [List.drop_eq_nil_of_le (by omega)]
  simp [rp2]
 ·rw [ZcJ hc]
  exact Cs.append (h2.mono ((Kp.refl _ _).but hb (fun i h=>by subst h;exact .inl hR)) (fun _ h=>.inl h)) ⟨z,f,[],rfl,C.mono ((Kp.refl _ _).but hb (fun i h=>by subst h;exact .inl hR)) (fun _ h=>.inl h),rfl⟩
theorem CiR.done {R R':Nat->Prop}{gl n:Nat}{cs:List Cd}{W:World}(h:CiR R gl n cs n W)(hn:cs.length=n)(hm:n<=1000000)(hR:∀ k,R' k->R k)(hgl:¬ R' gl):CsV cap R' W (.slice (some ⟨gl,0,none⟩) n n) cs:=by
 obtain⟨xs,h1,h2,h3⟩:=h
 rw [List.take_of_length_le (by omega)] at h2
 refine⟨xs,⟨by rw [hn];exact h3,.inr ⟨gl,n,_,by rw [hn],Nat.zero_le _,h1,by omega,by unfold maxLen;omega,by simp [h3,rp2],?_⟩⟩,fun b hb=>by cases hb;exact hgl,h2.mono (Kp.refl _ _) (fun k h=>.inl (hR k h))⟩
 simp only [List.toList_toArray,Nat.sub_self,rp2,List.append_nil]
 exact List.take_of_length_le (by omega)
set_option maxRecDepth 100000 in
theorem Zkt:∀ (N:Nat)(t:Tr),szT t<=N->∀ (R P:Nat->Prop)(x:Value)(w:World),TrV w P x t->ZcF t->szT t<=5000->(∀ k,R k->k<w.heap.size)->Calls Tryz.prog 107 #[x] w (CodeP cap R w (cdT t)):=by
 intro N
 induction N with
 | zero=>intro t h;simp [szT] at h
 | succ N ih =>
 rintro⟨nd,kids⟩ hN R P0 x w T hfit hsz hR
 obtain⟨v,zs,rfl,ho,hp,hkd⟩:=T
 obtain⟨va,vc,hv,hvc,hvm⟩:=ZaR ho
 subst hv
 simp only at *
 unfold maxLen at hvm
 have hlen:kids.len<=5000:=by have:=Zcr kids;simp only [szT] at hsz;omega
 have hkidsz:kids.sz<N+1:=by simp only [szT] at hN;omega
 have hkidsz2:kids.sz<=5000:=by simp only [szT] at hsz;omega
 have H:=St.start Nope w
 have ihH:=Zaa ih
 clear ih
 obtain⟨kk,ks,kmn,kmx⟩:=nd
 simp only at *
 have hfitk:=hfit.2
 obtain⟨ft1,ft2,ft3,ft4⟩:=hfit.1
 simp only at ft1 ft2 ft3 ft4 hfitk
 clear hfit
 have child:Hid (∀ j,j<kids.len->∃ b cx,va=some ⟨b,0,none⟩/\b<w.heap.size/\(∃ ca cn cc,cx=reV (kids.nth j).1.k (kids.nth j).1.s (.slice ca cn cc) (kids.nth j).1.mn (kids.nth j).1.mx)/\∀ w',Below w.heap.size w w'->TrV w' P0 cx (kids.nth j)/\(loadVar 27 ⟨b,j * 8,none⟩).run Tryz.prog w'=.ok cx w'):=fun j hj=>by
  obtain⟨cv,czs,hcells,cho,chp,chk⟩:=Kd.nth hkd j hj
  rcases ho.2 with⟨h1,h2⟩|⟨b,cap',cur,hv,_,hgb,_⟩
  ·omega
  ·cases hv
   have hbl:=(Array.getElem?_eq_some_iff.1 hgb).1
   obtain⟨ca,cc,hcv,_,_⟩:=ZaR cho
   refine⟨b,_,rfl,hbl,⟨ca,_,cc,by rw [hcv]⟩,fun w' hb=>⟨TrV.kept (w:=w) ⟨cv,czs,rfl,cho,chp,chk⟩ (fun k _ hk=>hb.block k hk),?_⟩⟩
   refine ZdT (fun i u hi=>?_)
   have:=ho.cells (g:=b) rfl _ _ (hcells i u hi)
   rw [Zav,Nat.zero_add] at this
   exact (hb.cell (p:=⟨b,j * 8+i,none⟩) hbl).trans this
 clear ho hkd hp
 rcases ft4 with⟨rfl,hl0⟩|rfl|rfl|rfl
 ·have e:cdT (⟨1,ks,kmn,kmx⟩,kids)=sgl 1 ks:=by simp [cdT,cdN]
  rw [e]
  go_enter Tryz.func107,Tryz.ntmps107
  go_wp2_with (first|((with_reducible refine Zar 27 ?_);refine ZaM H rfl ?_;clear H;intro g1 w1 H q1 q2)|((with_reducible refine Zae 121 ?_);refine ZaS H ?_;clear H;intro g2 w2 H q3 q4)|((with_reducible refine Zac 3 ?_);refine Zax 1 0 H (v:=.int .i64 1) rfl rfl rfl ?_)|((with_reducible refine Zac 24 ?_);refine Zau 24 rfl (ZlS (H.get 1 rfl)) ?_)|((with_reducible refine Zbe 182 ?_);refine ZaI (Zie _ 1 ks rfl rfl _) ?_))
  have hb:=H.below
  have hlt:=H.lti 0 rfl
  refine (ZdW (fun k=>R k\/k=g2) ⟨1,ks,0,0⟩ _ (fun k hk=>by have:=hb.size;rcases hk with hk|hk;have:=hR k hk;omega;omega)).mono ?_
  rintro e w3 ⟨z,f,rfl,C,B3⟩
  obtain⟨nf,caps,hf,_⟩:=C.put
  subst hf
  have BB:=H.below.trans (B3.mono H.below.size)
  have H3:=(H.call B3 (Nat.le_refl _)).only
  clear H
  replace C:=Zaa C
  go_wp2_with (first|((with_reducible refine Zab 121 ?_);refine ZaU 0 (z':=z) (f':=.func (.func nf) #[] caps) H3 rfl rfl rfl rfl ?_;clear H3;intro w4 H3))
  refine bodyPost_ret (Zaf rfl _ _ _ _ rfl (ZcI (H3.get 0 rfl))) rfl ?_
  exact CodeP.stored BB C.out H3.but q3
 ·obtain⟨hmn0,hmx0⟩:=ft3 (by decide)
  subst hmn0 hmx0
  obtain⟨rfl⟩:ks=noSet:=ft1 (by decide)
  have e:cdT (⟨2,noSet,0,0⟩,kids)=sqn kids.cds:=by
   show cdN _ _=_
   unfold cdN
   simp
  rw [e]
  have hcl:=Fo.cds_len kids
  have hfitH:=Zaa hfitk
  clear hfitk
  go_enter Tryz.func107,Tryz.ntmps107
  go_wp2_with (first|((with_reducible refine Zar 27 ?_);refine ZaM H rfl ?_;clear H;intro g1 w1 H q1 q2)|((with_reducible refine Zae 121 ?_);refine ZaS H ?_;clear H;intro g2 w2 H q3 q4)|((with_reducible refine Zac 3 ?_);refine Zax 1 0 H (v:=.int .i64 2) rfl rfl rfl ?_)|((with_reducible refine Zac 25 ?_);refine Zh8 1 5 H (v:=.slice va kids.len vc) rfl rfl rfl ?_)|((with_reducible refine Zij 221 ?_);refine ZeI (n:=kids.len) (by omega) rfl rfl ?_;intro gl w3 hgl hrow B3;have hlw:=H.lti 0 rfl;have hlw1:=H.lti 1 rfl;have hbH:=H.below.size;have hgl1:gl≠g1/\gl≠g2/\w.heap.size<=gl:=⟨by omega,by omega,by omega⟩;clear hgl;replace H:=H.call B3 (Nat.le_refl _);replace hrow:=Zaa hrow;replace B3:=Zaa B3))
  have hglt:gl<w3.heap.size:=(Array.getElem?_eq_some_iff.1 hrow.out).1
  have hb3:=H.below.size
  have hRR:∀ k,(R k\/k=g2\/k=gl)->k<w3.heap.size:=fun k h=>by
   have:=B3.out.size
   rcases h with h|h|h
   ·have:=hR k h;omega
   ·omega
   ·omega
  go_loopw [33] (fun iv wr=>∃ k:Nat,k<=kids.len/\iv=.int .i64 (k:Int)/\Hid (St Nope w wr [(true,g2,121,cdA 0 .nilFunc),(true,g1,27,reA 2 noSet (.slice va kids.len vc) 0 0)])/\Hid (CiR (fun j=>R j\/j=g2\/j=gl) gl kids.len kids.cds k wr)/\Hid (w3.heap.size<=wr.heap.size)) (fun iv _=>kids.len - (intOf iv).toNat)
  case atStart=>exact⟨0,Nat.zero_le _,rfl,H,CiR.start hrow.out,Nat.le_refl _⟩
  case round =>
   clear H
   obtain⟨k,hk,rfl,H,hC,hws⟩:=hrel
   replace H:=H.out
   by_cases hlt:k<kids.len
   ·have i3:(k:Int)<(kids.len:Int):=by omega
    obtain⟨bb,cx,hva,hbb,⟨ca,cn,cc0,hcx⟩,hch⟩:=child.out k hlt
    subst hva
    have hfc:=ZeM kids k hlt hfitH.out
    have hsc:=Zjy kids k hlt
    have hcd:=Ziq kids k hlt
    generalize kids.nth k=tc at hch hfc hsc hcx hcd
    subst hcx
    have hld:=Zaa ((hch _ H.below).2)
    have IH:Hid (∀ w',Below wr.heap.size wr w'->Calls Tryz.prog 107 #[reV tc.1.k tc.1.s (.slice ca cn cc0) tc.1.mn tc.1.mx] w' (CodeP cap (fun j=>R j\/j=g2\/j=gl) w' (cdT tc))):=fun w' hb=>ihH.out tc (by omega) _ P0 _ w' (hch _ (H.below.trans (hb.mono H.below.size))).1 hfc (by omega) (fun j hj=>by have:=hRR j hj;have:=hws.out;have:=hb.size;omega)
    have hPut:Hid (∀ w',Below wr.heap.size wr w'->∀ z f,CdOk cap (fun j=>R j\/j=g2\/j=gl) w' z f (cdT tc)->∃ W',(storeVar 121 ⟨gl,k * 2,none⟩ (cdV z f)).run Tryz.prog w'=.ok () W'/\CiR (fun j=>R j\/j=g2\/j=gl) gl kids.len kids.cds (k+1) W'/\But (fun j=>j=gl) w' W'):=fun w' hb z f C=>(hC.out.below hb).put (.inr (.inr rfl)) hlt hcd C
    have hltH:=Zaa hlt
    have Hw:=St.start Nope wr
    have h2:=H.get 0 rfl
    have h1:=H.get 1 rfl
    have hne12:g1≠g2:=fun e=>by have:=H.nd;simp [e] at this
    have HB:=Zaa H
    clear H
    have H:=St.ro2 h2 h1 (fun e=>hne12 e.symm)
    replace h1:=Zaa h1
    replace h2:=Zaa h2
    replace hch:=Zaa hch
    replace hfc:=Zaa hfc
    replace hcd:=Zaa hcd
    clear Hw
    go_wp2_with (first|((with_reducible refine Zac 27 ?_);first|(refine Zas 0 H rfl rfl ?_)|(refine Zau 27 rfl hld.out ?_))|((with_reducible refine Zae 27 ?_);refine Zap H ?_;clear H;intro g5 w5 H q5 q6)|((with_reducible refine Zab 27 ?_);refine Zao 0 H rfl rfl rfl rfl ?_;clear H;intro w6 H))
    have hb6:=H.below
    refine (IH.out _ hb6).mono ?_
    rintro e w7 ⟨z,f,rfl,C,B7⟩
    have B67:=hb6.trans (B7.mono hb6.size)
    obtain⟨w8,hst,hC8,hb8⟩:=hPut.out w7 B67 z f C
    have H8:Hid (St Nope w w8 [(true,g2,121,cdA 0 .nilFunc),(true,g1,27,reA 2 noSet (.slice (some ⟨bb,0,none⟩) kids.len vc) 0 0)]):=(HB.out.call B67 (Nat.le_refl _)).callB hb8 (fun i hi h=>by omega) (fun x hx=>by
     simp only [List.mem_cons,List.not_mem_nil,or_false] at hx
     rcases hx with rfl|rfl
     ·exact fun e=>hgl1.2.1 e.symm
     ·exact fun e=>hgl1.1 e.symm)
    have hws8:Hid (w3.heap.size<=w8.heap.size):=by have:=hws.out;have:=B67.size;have:=hb8.size;show _<=_;omega
    replace hst:=Zaa hst
    replace hC8:=Zaa hC8
    replace C:=Zaa C
    clear H hb8
    go_wp2_with (first|((with_reducible refine Zab 121 ?_);refine ZaQ 121 rfl rfl hst.out ?_))
    go_roundw
    case rel=>exact⟨k+1,hltH.out,by go_num,H8,hC8,hws8⟩
    case measure=>have:=hltH.out;simp [intOf];omega
   ·obtain rfl:k=kids.len:=by omega
    have i4:¬ ((kids.len:Int)<(kids.len:Int)):=by omega
    have hCs:=hC.out.done (R':=fun j=>R j\/j=g2) hcl (by omega) (fun j h=>by rcases h with h|h;exact .inl h;exact .inr (.inl h)) (fun h=>by rcases h with h|h;have:=hR _ h;omega;exact hgl1.2.1 h)
    have hR3:∀ j,(R j\/j=g2)->j<wr.heap.size:=fun j hj=>by have:=hRR j (by rcases hj with h|h;exact .inl h;exact .inr (.inl h));have:=hws.out;omega
    have SQ:=Zaa (Zch (fun j=>R j\/j=g2) _ _ cap (by decide) wr hCs (by omega) hR3)
    replace hCs:=Zaa hCs
    clear hlt
    go_wp2_with (first|((with_reducible refine Zac 3 ?_);refine Zax 1 0 H (v:=.int .i64 2) rfl rfl rfl ?_))
    refine SQ.out.mono ?_
    rintro e w7 ⟨z,f,rfl,C,B7⟩
    obtain⟨nf,caps,hf,_⟩:=C.put
    subst hf
    have BB:=H.below.trans (B7.mono H.below.size)
    have H3:=(H.call B7 (Nat.le_refl _)).only
    clear H
    replace C:=Zaa C
    go_wp2_with (first|((with_reducible refine Zab 121 ?_);refine ZaU 0 (z':=z) (f':=.func (.func nf) #[] caps) H3 rfl rfl rfl rfl ?_;clear H3;intro w4 H3))
    refine bodyPost_ret (Zaf rfl _ _ _ _ rfl (ZcI (H3.get 0 rfl))) rfl ?_
    exact CodeP.stored BB C.out H3.but q3
 ·obtain⟨hmn0,hmx0⟩:=ft3 (by decide)
  subst hmn0 hmx0
  obtain⟨rfl⟩:ks=noSet:=ft1 (by decide)
  have e:cdT (⟨3,noSet,0,0⟩,kids)=chc kids.cds:=by
   show cdN _ _=_
   unfold cdN
   simp
  rw [e]
  have hcl:=Fo.cds_len kids
  have hfitH:=Zaa hfitk
  clear hfitk
  go_enter Tryz.func107,Tryz.ntmps107
  go_wp2_with (first|((with_reducible refine Zar 27 ?_);refine ZaM H rfl ?_;clear H;intro g1 w1 H q1 q2)|((with_reducible refine Zae 121 ?_);refine ZaS H ?_;clear H;intro g2 w2 H q3 q4)|((with_reducible refine Zac 3 ?_);refine Zax 1 0 H (v:=.int .i64 3) rfl rfl rfl ?_)|((with_reducible refine Zac 25 ?_);refine Zh8 1 5 H (v:=.slice va kids.len vc) rfl rfl rfl ?_)|((with_reducible refine Zij 221 ?_);refine ZeI (n:=kids.len) (by omega) rfl rfl ?_;intro gl w3 hgl hrow B3;have hlw:=H.lti 0 rfl;have hlw1:=H.lti 1 rfl;have hbH:=H.below.size;have hgl1:gl≠g1/\gl≠g2/\w.heap.size<=gl:=⟨by omega,by omega,by omega⟩;clear hgl;replace H:=H.call B3 (Nat.le_refl _);replace hrow:=Zaa hrow;replace B3:=Zaa B3))
  have hglt:gl<w3.heap.size:=(Array.getElem?_eq_some_iff.1 hrow.out).1
  have hb3:=H.below.size
  have hRR:∀ k,(R k\/k=g2\/k=gl)->k<w3.heap.size:=fun k h=>by
   have:=B3.out.size
   rcases h with h|h|h
   ·have:=hR k h;omega
   ·omega
   ·omega
  go_loopw [33] (fun iv wr=>∃ k:Nat,k<=kids.len/\iv=.int .i64 (k:Int)/\Hid (St Nope w wr [(true,g2,121,cdA 0 .nilFunc),(true,g1,27,reA 3 noSet (.slice va kids.len vc) 0 0)])/\Hid (CiR (fun j=>R j\/j=g2\/j=gl) gl kids.len kids.cds k wr)/\Hid (w3.heap.size<=wr.heap.size)) (fun iv _=>kids.len - (intOf iv).toNat)
  case atStart=>exact⟨0,Nat.zero_le _,rfl,H,CiR.start hrow.out,Nat.le_refl _⟩
  case round =>
   clear H
   obtain⟨k,hk,rfl,H,hC,hws⟩:=hrel
   replace H:=H.out
   by_cases hlt:k<kids.len
   ·have i3:(k:Int)<(kids.len:Int):=by omega
    obtain⟨bb,cx,hva,hbb,⟨ca,cn,cc0,hcx⟩,hch⟩:=child.out k hlt
    subst hva
    have hfc:=ZeM kids k hlt hfitH.out
    have hsc:=Zjy kids k hlt
    have hcd:=Ziq kids k hlt
    generalize kids.nth k=tc at hch hfc hsc hcx hcd
    subst hcx
    have hld:=Zaa ((hch _ H.below).2)
    have IH:Hid (∀ w',Below wr.heap.size wr w'->Calls Tryz.prog 107 #[reV tc.1.k tc.1.s (.slice ca cn cc0) tc.1.mn tc.1.mx] w' (CodeP cap (fun j=>R j\/j=g2\/j=gl) w' (cdT tc))):=fun w' hb=>ihH.out tc (by omega) _ P0 _ w' (hch _ (H.below.trans (hb.mono H.below.size))).1 hfc (by omega) (fun j hj=>by have:=hRR j hj;have:=hws.out;have:=hb.size;omega)
    have hPut:Hid (∀ w',Below wr.heap.size wr w'->∀ z f,CdOk cap (fun j=>R j\/j=g2\/j=gl) w' z f (cdT tc)->∃ W',(storeVar 121 ⟨gl,k * 2,none⟩ (cdV z f)).run Tryz.prog w'=.ok () W'/\CiR (fun j=>R j\/j=g2\/j=gl) gl kids.len kids.cds (k+1) W'/\But (fun j=>j=gl) w' W'):=fun w' hb z f C=>(hC.out.below hb).put (.inr (.inr rfl)) hlt hcd C
    have hltH:=Zaa hlt
    have Hw:=St.start Nope wr
    have h2:=H.get 0 rfl
    have h1:=H.get 1 rfl
    have hne12:g1≠g2:=fun e=>by have:=H.nd;simp [e] at this
    have HB:=Zaa H
    clear H
    have H:=St.ro2 h2 h1 (fun e=>hne12 e.symm)
    replace h1:=Zaa h1
    replace h2:=Zaa h2
    replace hch:=Zaa hch
    replace hfc:=Zaa hfc
    replace hcd:=Zaa hcd
    clear Hw
    go_wp2_with (first|((with_reducible refine Zac 27 ?_);first|(refine Zas 0 H rfl rfl ?_)|(refine Zau 27 rfl hld.out ?_))|((with_reducible refine Zae 27 ?_);refine Zap H ?_;clear H;intro g5 w5 H q5 q6)|((with_reducible refine Zab 27 ?_);refine Zao 0 H rfl rfl rfl rfl ?_;clear H;intro w6 H))
    have hb6:=H.below
    refine (IH.out _ hb6).mono ?_
    rintro e w7 ⟨z,f,rfl,C,B7⟩
    have B67:=hb6.trans (B7.mono hb6.size)
    obtain⟨w8,hst,hC8,hb8⟩:=hPut.out w7 B67 z f C
    have H8:Hid (St Nope w w8 [(true,g2,121,cdA 0 .nilFunc),(true,g1,27,reA 3 noSet (.slice (some ⟨bb,0,none⟩) kids.len vc) 0 0)]):=(HB.out.call B67 (Nat.le_refl _)).callB hb8 (fun i hi h=>by omega) (fun x hx=>by
     simp only [List.mem_cons,List.not_mem_nil,or_false] at hx
     rcases hx with rfl|rfl
     ·exact fun e=>hgl1.2.1 e.symm
     ·exact fun e=>hgl1.1 e.symm)
    have hws8:Hid (w3.heap.size<=w8.heap.size):=by have:=hws.out;have:=B67.size;have:=hb8.size;show _<=_;omega
    replace hst:=Zaa hst
    replace hC8:=Zaa hC8
    replace C:=Zaa C
    clear H hb8
    go_wp2_with (first|((with_reducible refine Zab 121 ?_);refine ZaQ 121 rfl rfl hst.out ?_))
    go_roundw
    case rel=>exact⟨k+1,hltH.out,by go_num,H8,hC8,hws8⟩
    case measure=>have:=hltH.out;simp [intOf];omega
   ·obtain rfl:k=kids.len:=by omega
    have i4:¬ ((kids.len:Int)<(kids.len:Int)):=by omega
    have hCs:=hC.out.done (R':=fun j=>R j\/j=g2) hcl (by omega) (fun j h=>by rcases h with h|h;exact .inl h;exact .inr (.inl h)) (fun h=>by rcases h with h|h;have:=hR _ h;omega;exact hgl1.2.1 h)
    have hR3:∀ j,(R j\/j=g2)->j<wr.heap.size:=fun j hj=>by have:=hRR j (by rcases hj with h|h;exact .inl h;exact .inr (.inl h));have:=hws.out;omega
    have SQ:=Zaa (Zkp (fun j=>R j\/j=g2) _ _ wr hCs (by omega) hR3)
    replace hCs:=Zaa hCs
    clear hlt
    go_wp2_with (first|((with_reducible refine Zac 3 ?_);refine Zax 1 0 H (v:=.int .i64 3) rfl rfl rfl ?_))
    refine SQ.out.mono ?_
    rintro e w7 ⟨z,f,rfl,C,B7⟩
    obtain⟨nf,caps,hf,_⟩:=C.put
    subst hf
    have BB:=H.below.trans (B7.mono H.below.size)
    have H3:=(H.call B7 (Nat.le_refl _)).only
    clear H
    replace C:=Zaa C
    go_wp2_with (first|((with_reducible refine Zab 121 ?_);refine ZaU 0 (z':=z) (f':=.func (.func nf) #[] caps) H3 rfl rfl rfl rfl ?_;clear H3;intro w4 H3))
    refine bodyPost_ret (Zaf rfl _ _ _ _ rfl (ZcI (H3.get 0 rfl))) rfl ?_
    exact CodeP.stored BB C.out H3.but q3
 ·obtain⟨hl1,har⟩:=ft2 rfl
  obtain⟨rfl⟩:ks=noSet:=ft1 (by decide)
  obtain⟨bb,cx,hva,hbb,⟨ca,cn,cc0,hcx⟩,hch⟩:=child.out 0 (by omega)
  subst hva
  simp only [Nat.zero_mul] at hch
  have har2:(0<=kmn/\kmn<=64)/\(kmx=-1\/kmn<=kmx/\kmx<=64):=by simpa [arT] using har
  obtain⟨mn,rfl⟩:∃ mn:Nat,kmn=(mn:Int):=⟨kmn.toNat,by omega⟩
  have hmn:mn<=64:=by omega
  have hmx:=har2.2
  have e:cdT (⟨4,noSet,(mn:Int),kmx⟩,kids)=rp (cdT (kids.nth 0)) mn kmx:=by
   cases kids with
   | nil=>simp [Fo.len] at hl1
   | cons n k r =>
    show cdN _ _=_
    unfold cdN
    rw [if_neg (show ¬ ((4:Int)=1) by decide),if_pos (show (4:Int)=4 from rfl)]
    rfl
  rw [e,hl1]
  have hfc:=ZeM kids 0 (by omega) hfitk
  have hsc:=Zjy kids 0 (by omega)
  generalize kids.nth 0=tc at hch hfc hsc hcx ⊢
  generalize hmxe:kmx=mx at *
  have IH:=Zaa (fun R' w' T hR'=>ihH.out tc (by omega) R' P0 cx w' T hfc (by omega) hR')
  generalize hcc:vc=cc at *
  rw [hl1] at hvc
  have icc:(0:Int)<(1:Int):=by decide
  subst hcx
  generalize hcxe:reV tc.1.k tc.1.s (.slice ca cn cc0) tc.1.mn tc.1.mx=cx at *
  go_enter Tryz.func107,Tryz.ntmps107
  go_wp2_with (first|((with_reducible refine Zar 27 ?_);refine ZaM H rfl ?_;clear H;intro g1 w1 H q1 q2)|((with_reducible refine Zae 121 ?_);refine ZaS H ?_;clear H;intro g2 w2 H q3 q4)|((with_reducible refine Zac 3 ?_);refine Zax 1 0 H (v:=.int .i64 4) rfl rfl rfl ?_))
  have hb:=H.below
  have hlt:=H.lti 0 rfl
  have hlt1:=H.lti 1 rfl
  have hs2:=hb.size
  have hne12:g1≠g2:=fun e=>by have:=H.nd;simp [e] at this
  have hR2:∀ k,(R k\/k=g2)->k<w2.heap.size:=fun k h=>by rcases h with h|h;have:=hR k h;omega;omega
  have BD:Below w2.heap.size w2 w2.drew:=(Below.refl _ w2).drew
  have OP:=Zaa (IH.out (fun k=>R k\/k=g2) w2.drew ((hch _ (hb.trans (BD.mono hs2))).1) hR2)
  have hS:Hid (∀ w',Below w2.heap.size w2 w'->(w'.cell? ⟨g1,5,none⟩=some (.slice (some ⟨bb,0,none⟩) 1 cc)/\(loadVar 27 ⟨bb,0,none⟩).run Tryz.prog w'=.ok cx w'/\w'.cell? ⟨g1,6,none⟩=some (.int .i64 (mn:Int))/\w'.cell? ⟨g1,7,none⟩=some (.int .i64 mx))):=fun w' hb'=>by
   have H3:=H.call hb' (Nat.le_refl _)
   exact⟨H3.cell 1 5 rfl rfl,(hch _ (hb.trans (hb'.mono hs2))).2,H3.cell 1 6 rfl rfl,H3.cell 1 7 rfl rfl⟩
  have hS6:Hid (∀ w5 w6,Below w2.heap.size w2 w5->But (fun k=>k=g2) w5 w6->(w6.cell? ⟨g1,5,none⟩=some (.slice (some ⟨bb,0,none⟩) 1 cc)/\(loadVar 27 ⟨bb,0,none⟩).run Tryz.prog w6=.ok cx w6/\w6.cell? ⟨g1,6,none⟩=some (.int .i64 (mn:Int))/\w6.cell? ⟨g1,7,none⟩=some (.int .i64 mx))):=fun w5 w6 hb' hbut=>by
   have H3:=(H.call hb' (Nat.le_refl _)).get 1 rfl
   have H4:w6.heap[g1]?=_:=(hbut.block g1 (by have:=hb'.size;omega) hne12).trans H3
   have B06:Below w.heap.size w w6:=(hb.trans (hb'.mono hs2)).trans (hbut.below (by have:=hb'.size;omega) (fun k h=>by omega))
   exact⟨by rw [cell_of_row w6 g1 5 _ 27 (0,0) H4];rfl,(hch _ B06).2,by rw [cell_of_row w6 g1 6 _ 27 (0,0) H4];rfl,by rw [cell_of_row w6 g1 7 _ 27 (0,0) H4];rfl⟩
  go_wp2_with fail
  refine wp_region_noPanic ?_
  refine wp_region_held_drew (S:=(fun w'=>w'.cell? ⟨g1,5,none⟩=some (.slice (some ⟨bb,0,none⟩) 1 cc)/\(loadVar 27 ⟨bb,0,none⟩).run Tryz.prog w'=.ok cx w'/\w'.cell? ⟨g1,6,none⟩=some (.int .i64 (mn:Int))/\w'.cell? ⟨g1,7,none⟩=some (.int .i64 mx))) (by kernel_rfl) (hS.out _ BD) (fun hH0=>?_)
  refine wpAnyH_take (i:=0) (oi:=⟨some 16,.fieldAddr 27 (.tmp 1) 2,0,"code.go:39",#[],none⟩) (v:=?_) rfl (by kernel_rfl) (by kernel_rfl) (by kernel_rfl) (fun _ _ _ h=>h) (Or.inl ⟨by rfl,?_⟩) hH0 ?_
  rotate_left
  ·intro w' hw'
   obtain⟨s1,s2,s3,s4⟩:=hw'
   go_simp
   try with_reducible rfl
  try simp only [Act.put,PuA]
  refine wpAnyH_take (i:=1) (oi:=⟨some 17,.load 25 (.tmp 16),25,"code.go:39",#[⟨0,.data⟩],none⟩) (v:=?_) rfl (by kernel_rfl) (by kernel_rfl) (by kernel_rfl) (fun _ _ _ h=>h) (Or.inl ⟨by rfl,?_⟩) hH0 ?_
  rotate_left
  ·intro w' hw'
   obtain⟨s1,s2,s3,s4⟩:=hw'
   go_simp
   try with_reducible rfl
  try simp only [Act.put,PuA]
  refine wpAnyH_take (i:=2) (oi:=⟨some 18,.indexAddr 25 (.tmp 17) (.const (.int .i64 0)),0,"code.go:39",#[⟨1,.data⟩],none⟩) (v:=?_) rfl (by kernel_rfl) (by kernel_rfl) (by kernel_rfl) (fun _ _ _ h=>h) (Or.inl ⟨by rfl,?_⟩) hH0 ?_
  rotate_left
  ·intro w' hw'
   obtain⟨s1,s2,s3,s4⟩:=hw'
   go_simp
   try with_reducible rfl
  try simp only [Act.put,PuA]
  refine wpAnyH_take (i:=3) (oi:=⟨some 19,.load 27 (.tmp 18),27,"code.go:39",#[⟨2,.data⟩],none⟩) (v:=cx) rfl (by kernel_rfl) (by kernel_rfl) (by kernel_rfl) (fun _ _ _ h=>h) (Or.inl ⟨by rfl,fun w' hw'=>ZlG 27 rfl hw'.2.1⟩) hH0 ?_
  try simp only [Act.put,PuA]
  refine wpAnyH_take (i:=5) (oi:=⟨some 21,.fieldAddr 27 (.tmp 1) 3,0,"code.go:39",#[],none⟩) (v:=?_) rfl (by kernel_rfl) (by kernel_rfl) (by kernel_rfl) (fun _ _ _ h=>h) (Or.inl ⟨by rfl,?_⟩) hH0 ?_
  rotate_left
  ·intro w' hw'
   obtain⟨s1,s2,s3,s4⟩:=hw'
   go_simp
   try with_reducible rfl
  try simp only [Act.put,PuA]
  refine wpAnyH_take (i:=6) (oi:=⟨some 22,.load 3 (.tmp 21),3,"code.go:39",#[⟨5,.data⟩],none⟩) (v:=?_) rfl (by kernel_rfl) (by kernel_rfl) (by kernel_rfl) (fun _ _ _ h=>h) (Or.inl ⟨by rfl,?_⟩) hH0 ?_
  rotate_left
  ·intro w' hw'
   obtain⟨s1,s2,s3,s4⟩:=hw'
   go_simp
   try with_reducible rfl
  try simp only [Act.put,PuA]
  refine wpAnyH_take (i:=7) (oi:=⟨some 23,.fieldAddr 27 (.tmp 1) 4,0,"code.go:39",#[],none⟩) (v:=?_) rfl (by kernel_rfl) (by kernel_rfl) (by kernel_rfl) (fun _ _ _ h=>h) (Or.inl ⟨by rfl,?_⟩) hH0 ?_
  rotate_left
  ·intro w' hw'
   obtain⟨s1,s2,s3,s4⟩:=hw'
   go_simp
   try with_reducible rfl
  try simp only [Act.put,PuA]
  refine wpAnyH_take (i:=8) (oi:=⟨some 24,.load 3 (.tmp 23),3,"code.go:39",#[⟨7,.data⟩],none⟩) (v:=?_) rfl (by kernel_rfl) (by kernel_rfl) (by kernel_rfl) (fun _ _ _ h=>h) (Or.inl ⟨by rfl,?_⟩) hH0 ?_
  rotate_left
  ·intro w' hw'
   obtain⟨s1,s2,s3,s4⟩:=hw'
   go_simp
   try with_reducible rfl
  try simp only [Act.put,PuA]
  refine wpAnyH_ready (rs:=[4]) (by kernel_rfl) (by simp) ?_
  refine AllReadyH.cons (o:=⟨some 20,.call { callee:=.value (.func 107),args:=#[.tmp 19],argTypes:=#[27] },121,"code.go:39",#[⟨3,.data⟩],none⟩) rfl (fun K hK=>?_) AllReadyH.nil
  refine ZlT (caps:=#[]) (u1:=cx) rfl rfl rfl clo38 ?_
  rw [Array.append_empty]
  refine OP.out.mono ?_
  rintro e w3 ⟨z1,f1,rfl,C1,B3⟩
  have B23:=BD.trans (B3.mono BD.size)
  have RP:=Zaa (ZcK _ z1 f1 _ mn mx w3 hmn hmx C1 (fun k hk=>by have:=hR2 k hk;have:=B23.size;omega))
  replace C1:=Zaa C1
  refine⟨_,rfl,?_⟩
  refine hK.out _ _ (hS.out _ B23) (fun hH1=>?_)
  clear hK
  try simp only [Act.put,PuA]
  refine wpAnyH_ready (rs:=[9]) (by kernel_rfl) (by simp) ?_
  refine AllReadyH.cons (o:=⟨some 25,.call { callee:=.value (.func 160),args:=#[.tmp 20,.tmp 22,.tmp 24],argTypes:=#[121,3,3] },121,"code.go:39",#[⟨4,.data⟩,⟨6,.data⟩,⟨8,.data⟩,⟨4,.chain⟩],none⟩) rfl (fun K hK=>?_) AllReadyH.nil
  refine ZlU (caps:=#[]) (u1:=cdV z1 f1) (u2:=.int .i64 (mn:Int)) (u3:=.int .i64 mx) rfl rfl rfl rfl rfl clo62 ?_
  rw [Array.append_empty]
  refine RP.out.mono ?_
  rintro e w4 ⟨z2,f2,rfl,C2,B4⟩
  have B24:=B23.trans (B4.mono B23.size)
  have hf2:=C2.put.one
  have H4:St (fun k=>k=g2) w4 w4 [(true,g2,121,cdA 0 .nilFunc)]:=(H.call B24 (Nat.le_refl _)).only
  have hst:=store54 (H4.get 0 rfl) (z':=z2) hf2
  have H5:=H4.setRow 0 rfl (cdA z2 f2)
  refine⟨_,rfl,?_⟩
  refine hK.out _ _ (hS.out _ B24) (fun hH2=>?_)
  clear hK
  try simp only [Act.put,PuA]
  refine wpAnyH_ready (rs:=[10]) (by kernel_rfl) (by simp) ?_
  refine AllReadyH.cons (o:=⟨none,.store 121 (.tmp 2) (.tmp 25),0,"code.go:39",#[⟨9,.data⟩,⟨9,.chain⟩,⟨0,.phase⟩,⟨1,.phase⟩,⟨2,.phase⟩,⟨3,.phase⟩,⟨4,.phase⟩,⟨5,.phase⟩,⟨6,.phase⟩,⟨7,.phase⟩,⟨8,.phase⟩,⟨9,.phase⟩],none⟩) rfl (fun K hK=>?_) AllReadyH.nil
  rw [if_pos (by rfl)]
  refine Zg7 121 rfl rfl rfl hst ?_
  refine hK.out _ _ (hS6.out _ _ B24 H5.but) (fun hH3=>?_)
  clear hK
  try simp only [Act.put,PuA]
  refine wpAnyH_done (by kernel_rfl) ?_ _
  refine NoPanic.normal ?_
  go_wp2_with fail
  refine bodyPost_ret (Zaf rfl _ _ _ _ rfl (ZcI (H5.get 0 rfl))) rfl ?_
  exact CodeP.stored (hb.trans (B24.mono hs2)) C2 H5.but q3
end
section
open Go.RowKit Go.Shelf
theorem ZdZ (w:World):(binOp .neq 24 (.agg #[.int .u64 0,.int .u64 0,.int .u64 0,.int .u64 0]) (.agg #[.int .u64 0,.int .u64 0,.int .u64 0,.int .u64 0])).run Tryz.prog w=.ok (.bool false) w:=by kernel_rfl
theorem ZbX:Tryz.prog.eqGuardType Tryz.prog.depth 24=false:=by kernel_rfl
theorem fit_1 (s:S4)(a:Option Addr)(c:Nat)(w:World):Calls Tryz.prog 129 #[reV 1 s (.slice a 0 c) 0 0] w fun e w'=>e=.returned (.bool true)/\Below w.heap.size w w':=by
 have H:=St.start Nope w
 have kn:=fun w=>ZdZ w
 have kg:=ZbX
 go_enter Tryz.func129,Tryz.ntmps129
 go_wp2_with (first|((with_reducible refine Zar 27 ?_);refine ZaM H rfl ?_;clear H;intro g w' H q1 q2;have c0:=H.cell 0 0 rfl (v:=.int .i64 (1)) rfl;have c1:=H.cell 0 1 rfl (v:=.int .u64 (s).a) rfl;have c2:=H.cell 0 2 rfl (v:=.int .u64 (s).b) rfl;have c3:=H.cell 0 3 rfl (v:=.int .u64 (s).c) rfl;have c4:=H.cell 0 4 rfl (v:=.int .u64 (s).d) rfl;have c5:=H.cell 0 5 rfl (v:=.slice a 0 c) rfl;have c6:=H.cell 0 6 rfl (v:=.int .i64 (0)) rfl;have c7:=H.cell 0 7 rfl (v:=.int .i64 (0)) rfl;try simp only [noSet] at c1 c2 c3 c4))
 go_ret
 exact⟨rfl,H.below⟩
theorem fit_2 (a:Option Addr)(n c:Nat)(w:World):Calls Tryz.prog 129 #[reV 2 noSet (.slice a n c) 0 0] w fun e w'=>e=.returned (.bool true)/\Below w.heap.size w w':=by
 have H:=St.start Nope w
 have kn:=fun w=>ZdZ w
 have kg:=ZbX
 go_enter Tryz.func129,Tryz.ntmps129
 go_wp2_with (first|((with_reducible refine Zar 27 ?_);refine ZaM H rfl ?_;clear H;intro g w' H q1 q2;have c0:=H.cell 0 0 rfl (v:=.int .i64 (2)) rfl;have c1:=H.cell 0 1 rfl (v:=.int .u64 (noSet).a) rfl;have c2:=H.cell 0 2 rfl (v:=.int .u64 (noSet).b) rfl;have c3:=H.cell 0 3 rfl (v:=.int .u64 (noSet).c) rfl;have c4:=H.cell 0 4 rfl (v:=.int .u64 (noSet).d) rfl;have c5:=H.cell 0 5 rfl (v:=.slice a n c) rfl;have c6:=H.cell 0 6 rfl (v:=.int .i64 (0)) rfl;have c7:=H.cell 0 7 rfl (v:=.int .i64 (0)) rfl;try simp only [noSet] at c1 c2 c3 c4))
 go_ret
 exact⟨rfl,H.below⟩
theorem fit_3 (a:Option Addr)(n c:Nat)(w:World):Calls Tryz.prog 129 #[reV 3 noSet (.slice a n c) 0 0] w fun e w'=>e=.returned (.bool true)/\Below w.heap.size w w':=by
 have H:=St.start Nope w
 have kn:=fun w=>ZdZ w
 have kg:=ZbX
 go_enter Tryz.func129,Tryz.ntmps129
 go_wp2_with (first|((with_reducible refine Zar 27 ?_);refine ZaM H rfl ?_;clear H;intro g w' H q1 q2;have c0:=H.cell 0 0 rfl (v:=.int .i64 (3)) rfl;have c1:=H.cell 0 1 rfl (v:=.int .u64 (noSet).a) rfl;have c2:=H.cell 0 2 rfl (v:=.int .u64 (noSet).b) rfl;have c3:=H.cell 0 3 rfl (v:=.int .u64 (noSet).c) rfl;have c4:=H.cell 0 4 rfl (v:=.int .u64 (noSet).d) rfl;have c5:=H.cell 0 5 rfl (v:=.slice a n c) rfl;have c6:=H.cell 0 6 rfl (v:=.int .i64 (0)) rfl;have c7:=H.cell 0 7 rfl (v:=.int .i64 (0)) rfl;try simp only [noSet] at c1 c2 c3 c4))
 go_ret
 exact⟨rfl,H.below⟩
theorem fit_4 (a:Option Addr)(c:Nat)(mn mx:Int)(h:arT mn mx=true)(w:World):Calls Tryz.prog 129 #[reV 4 noSet (.slice a 1 c) mn mx] w fun e w'=>e=.returned (.bool true)/\Below w.heap.size w w':=by
 have H:=St.start Nope w
 have kn:=fun w=>ZdZ w
 have kg:=ZbX
 go_enter Tryz.func129,Tryz.ntmps129
 go_wp2_with (first|((with_reducible refine Zar 27 ?_);refine ZaM H rfl ?_;clear H;intro g w' H q1 q2;have c0:=H.cell 0 0 rfl (v:=.int .i64 (4)) rfl;have c1:=H.cell 0 1 rfl (v:=.int .u64 (noSet).a) rfl;have c2:=H.cell 0 2 rfl (v:=.int .u64 (noSet).b) rfl;have c3:=H.cell 0 3 rfl (v:=.int .u64 (noSet).c) rfl;have c4:=H.cell 0 4 rfl (v:=.int .u64 (noSet).d) rfl;have c5:=H.cell 0 5 rfl (v:=.slice a 1 c) rfl;have c6:=H.cell 0 6 rfl (v:=.int .i64 (mn)) rfl;have c7:=H.cell 0 7 rfl (v:=.int .i64 (mx)) rfl;try simp only [noSet] at c1 c2 c3 c4))
 refine (Zbm mn mx _).mono ?_
 rintro e w1 ⟨rfl,rfl⟩
 rw [h]
 go_wp2_with fail
 go_ret
 exact⟨rfl,H.below⟩
theorem Zg8 (n:Nd)(a:Option Addr)(len c:Nat)(h:Zdv n len)(w:World):Calls Tryz.prog 129 #[reV n.k n.s (.slice a len c) n.mn n.mx] w fun e w'=>e=.returned (.bool true)/\Below w.heap.size w w':=by
 obtain⟨h1,h2,h3,h4⟩:=h
 obtain⟨k,s,mn,mx⟩:=n
 simp only at *
 rcases h4 with⟨rfl,rfl⟩|rfl|rfl|rfl
 ·obtain⟨rfl,rfl⟩:=h3 (by decide)
  exact fit_1 s a c w
 ·obtain⟨rfl,rfl⟩:=h3 (by decide)
  obtain rfl:=h1 (by decide)
  exact fit_2 a len c w
 ·obtain⟨rfl,rfl⟩:=h3 (by decide)
  obtain rfl:=h1 (by decide)
  exact fit_3 a len c w
 ·obtain rfl:=h1 (by decide)
  obtain⟨rfl,ha⟩:=h2 rfl
  exact fit_4 a c mn mx ha w
end
section
open Go.RowKit Go.Shelf
attribute [local go_sem] Oper.semAt_some
section
variable {F:Fence}{n:Nat}{w w':World}{ops:Array Oper}{rest:List Oper}{a:Act}{Q:Exit->Act->World->Prop}{dst:Option Nat}{x y:Operand}{ty:TypeId}{pos:String}{after:Array Edge}
theorem wlI_alloc3 (hF:∀ f,F.fn f)(h:∀ g w',w'.heap[g]?=some (.cells #[.int .i64 0] 3 (0,0))->Below w.heap.size w w'->w.heap.size<=g->wpListIn F n Tryz.prog ops Q rest (a.put dst (.pointer (some ⟨g,0,none⟩))) w'):wpListIn F n Tryz.prog ops Q (⟨dst,.alloc 3,ty,pos,after,none⟩::rest) a w :=
 ZaF hF (fun c=>nofun) (Zcq w) (h _ _ (heap_alloc_new w _) ((Below.refl _ w).alloc (Nat.le_refl _) _) (Nat.le_refl _))
theorem ZlV {w:World}{g:Nat}{u:Value}{v:Int}(h:w.heap[g]?=some (.cells #[u] 3 (0,0))):(storeVar 3 ⟨g,0,none⟩ (.int .i64 v)).run Tryz.prog w=.ok () (w.setCell ⟨g,0,none⟩ (.int .i64 v)):=by
 have hc:=Zal h 0 (v:=u) rfl
 have hf:=frozen_of_row w g 0 _ 3 h
 have e:(storeCells ⟨g,0,none⟩ [.int .i64 v]).run Tryz.prog w=.ok () (w.setCell ⟨g,0,none⟩ (.int .i64 v)):=by simp [storeCells,go_sem,stored,hc,hf]
 have e4:(Value.int .i64 v).cells=#[.int .i64 v]:=rfl
 unfold storeVar
 simp only [Sem.run_bind,one3,Result.andThen_ok,e4]
 simpa using e
theorem Zcv (hF:∀ f,F.fn f){g:Nat}{u:Value}{v:Int}(hg:w.heap[g]?=some (.cells #[u] 3 (0,0)))(hx:a.eval x=.pointer (some ⟨g,0,none⟩))(hy:a.eval y=.int .i64 v)(h:∀ w',w'.heap[g]?=some (.cells #[.int .i64 v] 3 (0,0))->But (fun k=>k=g) w w'->wpListIn F n Tryz.prog ops Q rest a w'):wpListIn F n Tryz.prog ops Q (⟨none,.store 3 x y,ty,pos,after,none⟩::rest) a w:=by
 refine Za4 (w':=w.setCell ⟨g,0,none⟩ (.int .i64 v)) hF (fun c=>nofun) ?_ (h _ ?_ ?_)
 ·unfold execOp
  simp only [hx,hy,Instr.storeAt,Instr.sureAddr,Sem.run_bind,Sem.run_pure,Result.andThen_ok,ZlV hg]
 ·exact heap_setCell_same w g 0 _ 3 _ hg
 ·exact⟨rfl,rfl,rfl,by simp [World.setCell],fun k hk hn=>Below.heap_setCell w ⟨g,0,none⟩ _ k hn⟩
theorem ZcM (t:TypeId){gd:Nat × Bool}{ad:Addr}{v:Value}(hF:∀ f,F.fn f)(hw:Region.wanted ⟨dst,.load t x,ty,pos,after,some gd⟩ (yielded ops a.tmps)=true)(hx:a.eval x=.pointer (some ad))(hl:(loadVar t ad).run Tryz.prog w=.ok v w)(k:wpListIn F n Tryz.prog ops Q rest (a.put dst v) w):wpListIn F n Tryz.prog ops Q (⟨dst,.load t x,ty,pos,after,some gd⟩::rest) a w:=by
 refine wpListIn_step fun K hK=>?_
 rw [if_pos hw]
 unfold Oper.wpIn
 refine⟨fun f _=>hF f,?_⟩
 rw [Oper.semAt_plain F _ _ (by intro c hc';cases hc')]
 unfold execOp
 simp only [hx,Instr.loadAt,Instr.sureAddr,Sem.run_bind,Sem.run_pure,Result.andThen_ok,hl]
 exact hK _ _ k
variable {S:Nat->Prop}{w0:World}{L:List Ent}
theorem Zg9 (hF:∀ f,F.fn f)(H:St S w0 w L){m:Int}{s:S4}{l:Value}{mn mx:Int}(hx:a.eval x=reV m s l mn mx)(h:∀ g w',St S w0 w' ((true,g,27,reA m s l mn mx)::L)->w0.heap.size<=g->wpListIn F n Tryz.prog ops Q rest (a.put dst (.pointer (some ⟨g,0,none⟩))) w'):wpListIn F n Tryz.prog ops Q (⟨dst,.box 27 x,ty,pos,after,none⟩::rest) a w :=
 ZaF hF (fun c=>nofun) (ZeA _ _ _ _ _ _ m s l mn mx hx w) (h _ _ (H.alloc 27 _) H.but.size)
theorem Zcs (hF:∀ f,F.fn f)(H:St S w0 w L)(h:∀ g w',St S w0 w' ((true,g,3,#[.int .i64 0])::L)->w0.heap.size<=g->wpListIn F n Tryz.prog ops Q rest (a.put dst (.pointer (some ⟨g,0,none⟩))) w'):wpListIn F n Tryz.prog ops Q (⟨dst,.alloc 3,ty,pos,after,none⟩::rest) a w :=
 ZaF hF (fun c=>nofun) (Zcq w) (h _ _ (H.alloc 3 _) H.but.size)
theorem Zir (i:Nat)(hF:∀ f,F.fn f)(H:St S w0 w L){g:Nat}{u:Value}{v:Int}(h:L[i]?=some (true,g,3,#[u]))(hx:a.eval x=.pointer (some ⟨g,0,none⟩))(hy:a.eval y=.int .i64 v)(k:∀ w',St S w0 w' (L.set i (true,g,3,#[.int .i64 v]))->wpListIn F n Tryz.prog ops Q rest a w'):wpListIn F n Tryz.prog ops Q (⟨none,.store 3 x y,ty,pos,after,none⟩::rest) a w:=by
 refine Za4 (w':=w.setCell ⟨g,0,none⟩ (.int .i64 v)) hF (fun c=>nofun) ?_ (k _ (H.setCell i h 0 _))
 unfold execOp
 simp only [hx,hy,Instr.storeAt,Instr.sureAddr,Sem.run_bind,Sem.run_pure,Result.andThen_ok,ZlV (H.get i h)]
theorem Zfv (i:Nat)(hF:∀ f,F.fn f)(H:St S w0 w L){b:Bool}{g:Nat}{m:Int}{s:S4}{l:Value}{mn mx:Int}(h:L[i]?=some (b,g,27,reA m s l mn mx))(hx:a.eval x=.pointer (some ⟨g,0,none⟩))(k:wpListIn F n Tryz.prog ops Q rest (a.put dst (reV m s l mn mx)) w):wpListIn F n Tryz.prog ops Q (⟨dst,.load 27 x,ty,pos,after,none⟩::rest) a w:=Zai 27 hF hx (ZaG (H.get i h)) k
theorem ZcN (t:TypeId){gd:Nat × Bool}(h:wpListIn F n Tryz.prog ops Q (⟨dst,.load t x,ty,pos,after,some gd⟩::rest) a w):wpListIn F n Tryz.prog ops Q (⟨dst,.load t x,ty,pos,after,some gd⟩::rest) a w:=h
end
def PrS (d:Nat)(n:Nd)(len:Nat):Prop:=d<=128/\Zdv n len
theorem allS:∀ (f:Fo)(d:Nat),f.fit->d+f.dp<=129->AllF PrS d f
 | .nil,_,_,_=>trivial
 | .cons n k r,d,⟨h1,h2,h3⟩,h=>by
  simp only [Fo.dp] at h
  exact⟨⟨by omega,h1⟩,allS k (d+1) h2 (by omega),allS r d h3 (by omega)⟩
structure SzI (w0:World) (gn gr:Nat) (k:Nat) (W:World):Prop where
 n:W.heap[gn]?=some (.cells #[.int .i64 (k:Int)] 3 (0,0))
 r:W.heap[gr]?=some (.cells #[.int .i64 0] 3 (0,0))
 bel:Below w0.heap.size w0 W
theorem SzI.own {w0:World}{gn gr k B:Nat}{W W':World}{row:Option Nat}(h:SzI w0 gn gr k W)(hB:w0.heap.size<=B)(hg:W.grownBy W' row)(hr:∀ r,row=some r->B<=r/\∃ o:Obj,W.heap[r]?=some o/\o.isCells=false):SzI w0 gn gr k W':=by
 have ne:∀ g xs t,W.heap[g]?=some (.cells xs t (0,0))->some g≠row:=fun g xs t h e=>by
  obtain⟨_,o,ho,hc⟩:=hr g e.symm
  rw [h] at ho
  cases ho
  cases hc
 refine⟨(hg.block gn (Array.getElem?_eq_some_iff.1 h.n).1 (ne _ _ _ h.n)).trans h.n,(hg.block gr (Array.getElem?_eq_some_iff.1 h.r).1 (ne _ _ _ h.r)).trans h.r,h.bel.grown hg h.bel.size (fun k e=>by have:=(hr k e).1;omega)⟩
theorem Za7 {S:Nat->Prop}{W W':World}{B:Nat}(h:But S W W')(hS:∀ k,S k->k<B\/∃ xs t,W.heap[k]?=some (.cells xs t (0,0))):KeepsFrom B W W':=⟨h.size,fun k o hB hk ho=>by
 rw [h.block k (Array.getElem?_eq_some_iff.1 hk).1 (fun e=>?_)]
 ·exact hk
 ·rcases hS k e with h1|⟨xs,t,h1⟩
  ·omega
  ·rw [h1] at hk;cases hk;cases ho⟩
theorem ZlW {S T:Nat->Prop}{W W':World}(h:But S W W')(hT:∀ k,S k->T k):Kc T W W':=⟨h.size,fun k cs t fr hn e=>by rw [h.block k (Array.getElem?_eq_some_iff.1 e).1 (fun hs=>hn (hT k hs))];exact e⟩
theorem Zbu {W W':World}{B:Nat}(h:Below B W W')(hB:W.heap.size<=B)(S:Nat->Prop):But S W W':=Zbd h S (fun k hk hb=>by omega)
set_option maxRecDepth 100000 in
theorem size_in (n:Nat)(hn:3<=n)(t:Tr)(P:Nat->Prop)(x:Value)(w:World)(T:TrV w P x t)(hf:ZcF t)(hsz:szT t<=4096)(hdp:dpT t<=128) :
  CallsIn Fence.wide n Tryz.prog 76 #[x] w fun e w'=>e=.returned (.int .i64 (szT t:Int))/\Below w.heap.size w w':=by
 obtain⟨v,zs,rfl,ho,hp,hk⟩:=T
 obtain⟨va,vc,hv,_,_⟩:=ZaR ho
 subst hv
 obtain⟨nd,kids⟩:=t
 simp only at *
 have hold:Hid (Kd w (fun b=>b<w.heap.size) kids zs):=hk.mono (fun b hb _=>hb)
 have hown:Hid (∀ b,(Value.slice va kids.len vc).ownBlock=some b->b<w.heap.size):=fun b hb=>(Za9 ho hb).2
 have hPr:Hid (PrS 1 nd kids.len):=⟨by omega,hf.1⟩
 have hA:Hid (AllF PrS 2 kids):=allS kids 2 hf.2 (by simp only [dpT] at hdp;omega)
 replace ho:=Zaa ho
 clear hk hp hf
 have H:=St.start Nope w
 have m0:=trivial
 refine callsIn_of_wp_marks Tryz.func76 rfl trivial ?_ rfl
 simp only [Tryz.ntmps76,List.size_toArray,List.length_cons,List.length_nil,Nat.reduceAdd,Nat.reduceSub,Array.replicate_succ,Array.replicate_zero,List.push_toArray,List.append_toArray,List.nil_append,List.cons_append]
 gi_wp2_with (first|((with_reducible refine Zbh 27 ?_);refine Zg9 Zad H rfl ?_;clear H;intro g1 w1 H hg1)|((with_reducible refine ZaO 3 ?_);clear m0;refine Zcs Zad H ?_;clear H;intro gr w2 H hgr)|((with_reducible refine ZaO 3 ?_);refine Zcs Zad H ?_;clear H;intro g w2 H hg)|((with_reducible refine Zay 3 ?_);refine Zir 0 Zad H rfl rfl rfl ?_;clear H;intro w3 H)|((with_reducible refine Zah 27 ?_);refine Zfv 2 Zad H rfl rfl ?_))
 have hln3:=H.lti 0 rfl
 have hlr3:=H.lti 1 rfl
 refine⟨trivial,fun h=>(by cases h),(Zg4 _ _ _ _ _ _ _).mono ?_⟩
 rintro e w5 ⟨gB,rfl,hbB,B5,hgB⟩
 replace H:=H.call B5 (Nat.le_refl _)
 have hb5:=H.below
 have hs5:=hb5.size
 have hn5:=H.get 0 rfl
 have hr5:=H.get 1 rfl
 have hln:=H.lti 0 rfl
 have hlr:=H.lti 1 rfl
 have hne:Hid (g≠gr):=fun e=>by
  have:=H.nd
  simp [e] at this
 have hlB:=(Array.getElem?_eq_some_iff.1 hbB).1
 have hgBn:Hid (gB≠g/\gB≠gr):=⟨by omega,by omega⟩
 have hkw:Hid (Kc (fun k=>k=g\/k=gr) w w5):=Kc.below hb5 (Nat.le_refl _)
 have hst:=Zg6 (Pr:=PrS) (fun k=>k=g\/k=gr) (n - 1) gB (nd,kids) (.slice va kids.len vc) zs w5 hbB (ZbM ho.out hkw.out (fun b hb=>by have:=hown.out b hb;omega)) (fun b hb=>by have:=hown.out b hb;omega) (Kd.kc hkw.out (hold.out.mono (fun b _ h=>by omega))) hPr.out hA.out (by omega) (by have:=hgBn.out;omega) (fun k hk=>by omega)
 have I0:SzI w g gr 0 w5:=⟨hn5,hr5,hb5⟩
 gi_wp2
 refine wpIn_rangeFunc_ownH rfl (by omega) (gf:=179) (lb:=#[.pointer (some ⟨gB,0,none⟩)]) rfl (Zad 82) (enters_of Tryz.func179 (by kernel_rfl) rfl)
  hst (fun h k=>h.trans k) (fun W l o o' hl ho hc _=>⟨by simp [World.putObj],fun k cs t fr hn e=>?kb⟩) (Below.refl _ w5) (fun _=>rfl)
  (fun pre W=>SzI w g gr pre.length W)
  (fun _ _ _=>False)
  (fun pre W W' row hs hg hr=>hs.own hs5 hg hr)
  (fun _ _ _ _ _ hs _ _=>hs)
  I0
  (fun x a' W=>∃ g5,a'={ tmps:=#[reV nd.k nd.s (.slice va kids.len vc) nd.mn nd.mx,.pointer (some ⟨g1,0,none⟩),.pointer (some ⟨gr,0,none⟩),.pointer (some ⟨g,0,none⟩),.int .i64 (x.d:Int),.pointer (some ⟨g5,0,none⟩),reV nd.k nd.s (.slice va kids.len vc) nd.mn nd.mx,.func (.func 179) #[] #[.pointer (some ⟨gB,0,none⟩)],.int .i64 (x.d:Int),reV x.nd.k x.nd.s (.slice x.ad x.len x.cap) x.nd.mn x.nd.mx,undef,undef,undef,undef,undef,undef,undef,undef,undef,undef,undef,undef,undef,undef],defers:=[] }/\W.heap[g5]?=some (.cells (reA x.nd.k x.nd.s (.slice x.ad x.len x.cap) x.nd.mn x.nd.mx) 27 (0,0)))
  (fun x a' _ W W' row hs hg hr=>?ax) ?assign ?body ?done ?stop
 case kb =>
  rw [(grownBy_putObj' W l o').block k (Array.getElem?_eq_some_iff.1 e).1 (fun h=>by cases h;rw [ho] at e;cases e;cases hc)]
  exact e
 case ax =>
  obtain⟨g5,e1,e2⟩:=hs
  refine⟨g5,e1,(hg.block g5 (Array.getElem?_eq_some_iff.1 e2).1 (fun e=>?_)).trans e2⟩
  obtain⟨_,o,ho,hc⟩:=hr g5 e.symm
  rw [e2] at ho
  cases ho
  cases hc
 case assign =>
  intro l pre x W K hi hK
  simp only [encE,List.zip_toArray,List.zip_cons_cons,List.zip_nil_left,List.zip_nil_right,List.foldl_toArray,List.foldl_cons,List.foldl_nil,List.setIfInBounds_toArray,List.set_cons_zero,List.set_cons_succ]
  replace hK:=Zaa hK
  replace hi:=Zaa hi
  gi_wp2_with (first|((with_reducible refine ZdC ?_);refine ZdD (Zan l) rfl (fun _=>rfl) (fun _=>rfl) ?_;intro g5 w8 hb8 B8 hg8;replace hb8:=Zaa hb8;replace B8:=Zaa B8))
  have hbl:=hi.out.bel.size
  exact hK.out _ w8 (Za7 (Zbu B8.out (Nat.le_refl _) (fun _=>False)) (fun k h=>h.elim)) (Kc.below B8.out (Nat.le_refl _)) (hi.out.own hs5 (ZbV B8.out) (fun r e=>(by cases e))) ⟨g5,rfl,hb8.out⟩
 case body =>
  rintro l pre x a' W hl ⟨r,hr⟩ hi ⟨g5,rfl,hb5'⟩ hlt
  have hne5:g5≠g:=fun e=>by
   have h:=hi.n.symm.trans (e ▸ hb5')
   simp at h
  have cN:=Zal hi.n 0 (v:=.int .i64 (pre.length:Int)) rfl
  have hPx:=x.h
  have hd:(x.d:Int)<=128:=by have:=hPx.1;omega
  have hd2:¬ ((128:Int)<(x.d:Int)):=by omega
  have hc2:¬ ((4096:Int)<(pre.length:Int)+1):=by omega
  have hll:pre.length<4096:=by omega
  have hNs:=Zaa hi.n
  have FI:=Zaa (fun w=>Zg8 x.nd x.ad x.len x.cap hPx.2 w)
  replace hPx:=Zaa hPx
  replace hi:=Zaa hi
  replace hb5':=Zaa hb5'
  replace hr:=Zaa hr
  gi_wp2_with (first|((with_reducible refine Zay 3 ?_);refine Zcv (Zan l) hNs.out rfl rfl ?_;intro w7 hn7 B7;have cN7:=Zal hn7 0 (v:=.int .i64 ((pre.length:Int)+1)) rfl;replace hn7:=Zaa hn7;have hb7:=Zaa ((B7.block g5 (Array.getElem?_eq_some_iff.1 hb5'.out).1 hne5).trans hb5'.out);replace B7:=Zaa B7)|((with_reducible refine ZcN 27 ?_);refine ZcM 27 (Zan l) rfl rfl (ZaG hb7.out) ?_))
  refine⟨trivial,fun h=>(by cases h),(callsIn_wide.2 (FI.out w7)).mono ?_⟩
  rintro e w9 ⟨rfl,B9⟩
  have B79:Hid (But (fun k=>k=g) W w9):=B7.out.trans (Zbu B9 (Nat.le_refl _) (fun _=>False)) (fun i _ h=>h.elim)
  replace B9:=Zaa B9
  gi_wp2
  have hlg:=(Array.getElem?_eq_some_iff.1 hn7.out).1
  have hlr9:=(Array.getElem?_eq_some_iff.1 hi.out.r).1
  refine⟨Za7 B79.out (fun k e=>.inl (by omega)),ZlW B79.out (fun k e=>.inl e),?_,?_,?_⟩
  ·rw [B9.out.block g hlg,hn7.out]
   simp
  ·rw [B79.out.block gr hlr9 (fun e=>hne.out e.symm),hi.out.r]
  ·exact hi.out.bel.trans (B79.out.below hi.out.bel.size (fun k e=>by omega))
 case done =>
  rintro D xs W hD hS hI hK
  have cN:=Zal hI.n 0 (v:=.int .i64 (xs.length:Int)) rfl
  have hr:=Zaa hI.r
  have hbe:=Zaa hI.bel
  have hlr9:=(Array.getElem?_eq_some_iff.1 hI.r).1
  replace hI:=Zaa hI
  replace hS:=Zaa hS
  replace hK:=Zaa hK
  gi_wp2_with (first|((with_reducible refine Zay 3 ?_);refine Zcv Zad hr.out rfl rfl ?_;intro w7 hn7 B7;replace hn7:=Zaa hn7;replace B7:=Zaa B7))
  have hlD:=(Array.getElem?_eq_some_iff.1 hK.out).1
  have hK7:w7.heap[D]?=some (.deferred (some [])):=(B7.out.block D hlD (fun e=>by omega)).trans hK.out
  have B77:=grownBy_putObj' w7 D (.deferred none)
  have hn9:(w7.putObj D (.deferred none)).heap[gr]?=some (.cells #[.int .i64 (xs.length:Int)] 3 (0,0)):=(B77.block gr (by have:=B7.out.size;omega) (fun e=>by cases e;omega)).trans hn7.out
  refine⟨by simp,.inl ⟨_,_,rfl,run_takeDeferred hK7,?_⟩⟩
  refine⟨_,Zaf rfl _ _ gr _ rfl (ld3 (Zal hn9 0 rfl)),?_,?_⟩
  ·rw [hS.out];rfl
  ·exact (hbe.out.trans (B7.out.below (by have:=hbe.out.size;omega) (fun k e=>by omega))).grown B77 (by have:=hbe.out.size;have:=B7.out.size;omega) (fun k e=>by cases e;omega)
 case stop =>
  rintro D c pre W _ _ hh _
  exact hh.elim
theorem size_any (t:Tr)(P:Nat->Prop)(x:Value)(w:World)(T:TrV w P x t)(hf:ZcF t)(hsz:szT t<=4096)(hdp:dpT t<=128) :
  Calls Tryz.prog 76 #[x] w fun e w'=>e=.returned (.int .i64 (szT t:Int))/\Below w.heap.size w w':=callsIn_wide.1 (size_in 5 (by omega) t P x w T hf hsz hdp)
theorem check_any (t:Tr)(P:Nat->Prop)(x:Value)(w:World)(T:TrV w P x t)(hf:ZcF t)(hsz:szT t<=4096)(hdp:dpT t<=128) :
  Calls Tryz.prog 34 #[x] w fun e w'=>e=.returned (.bool true)/\Below w.heap.size w w':=by
 have H:=St.start Nope w
 have SZ:=Zaa (fun w' T=>size_any t P x w' T hf hsz hdp)
 have hp:0<szT t:=by simp [szT];omega
 have hT:Hid (TrV w P x t):=T
 obtain⟨va,vn,vc,rfl⟩:=T.val
 clear T
 have hp2:(0:Int)<(szT t:Int):=by omega
 replace hf:=Zaa hf
 go_enter Tryz.func34,Tryz.ntmps34
 go_wp2_with (first|((with_reducible refine Zar 27 ?_);refine ZaM H rfl ?_;clear H;intro g w' H q1 q2)|((with_reducible refine Zac 27 ?_);refine Zas 0 H rfl rfl ?_))
 refine (SZ.out _ (hT.out.kept (fun b _ hb=>H.below.block b hb))).mono ?_
 rintro e w1 ⟨rfl,B1⟩
 go_wp2_with fail
 go_ret
 exact⟨rfl,H.below.trans (B1.mono H.below.size)⟩
end
section
open Go.RowKit
theorem ZlX (n m:Nat)(fn gn:Fn)(xs ys us vs:Array Value)(w:World):(Instr.buildSlice 221 2 #[(0,cdV n (.func fn xs ys)),(1,cdV m (.func gn us vs))]).run Tryz.prog w=.ok (.slice (some ⟨w.heap.size,0,none⟩) 2 2) (w.alloc (.cells #[.int .i64 (n:Int),.func fn xs ys,.int .i64 (m:Int),.func gn us vs] 121)):=by kernel_rfl
section
variable {w w':World}{ops:Array Oper}{rest:List Oper}{a:Act}{Q:Exit->Act->World->Prop}{dst:Option Nat}{x y:Operand}{ty:TypeId}{pos:String}{after:Array Edge}
theorem wl_bs99b {n m:Nat}{fn gn:Fn}{xs ys us vs:Array Value}(hx:a.eval x=cdV n (.func fn xs ys))(hy:a.eval y=cdV m (.func gn us vs))(k:∀ g w',g=w.heap.size->w'=w.alloc (.cells #[.int .i64 (n:Int),.func fn xs ys,.int .i64 (m:Int),.func gn us vs] 121)->wpList Tryz.prog ops Q rest (a.put dst (.slice (some ⟨g,0,none⟩) 2 2)) w'):wpList Tryz.prog ops Q (⟨dst,.buildSlice 221 2 #[(0,x),(1,y)],ty,pos,after,none⟩::rest) a w:=by
 refine ZaI (w':=w.alloc (.cells #[.int .i64 (n:Int),.func fn xs ys,.int .i64 (m:Int),.func gn us vs] 121)) ?_ (k _ _ rfl rfl)
 unfold execOp
 simp only [List.map_toArray,List.map_cons,List.map_nil,hx,hy,Sem.run_bind,ZlX,Result.andThen_ok,Sem.run_pure]
end
set_option maxRecDepth 100000 in
theorem Zis (t:Tr)(P:Nat->Prop)(x:Value)(w:World)(T:TrV w P x t)(hf:ZcF t)(hsz:szT t<=5000):Calls Tryz.prog 64 #[x] w (CodeP cap Nope w (prg t)):=by
 have H:=St.start Nope w
 have hT:Hid (TrV w P x t):=T
 have CO:=Zaa (fun R w' T hR=>Zkt (szT t) t (Nat.le_refl _) R P x w' T hf hsz hR)
 obtain⟨va,vn,vc,rfl⟩:=T.val
 clear T
 replace hf:=Zaa hf
 go_enter Tryz.func64,Tryz.ntmps64
 go_wp2_with (first|((with_reducible refine Zar 27 ?_);refine ZaM H rfl ?_;clear H;intro g1 w1 H q1 q2)|((with_reducible refine Zae 121 ?_);refine ZaS H ?_;clear H;intro g2 w2 H q3 q4)|((with_reducible refine Zac 27 ?_);refine Zas 1 H rfl rfl ?_))
 have hb:=H.below
 have hl2:=H.lti 0 rfl
 refine (CO.out (fun k=>k=g2) w2 (hT.out.kept (fun b _ hl=>hb.block b hl)) (fun k hk=>by omega)).mono ?_
 rintro e w3 ⟨z,f,rfl,C,B3⟩
 have hl3:=B3.size
 go_wp2_with fail
 refine (end_any (fun k=>k=g2) w3).mono ?_
 rintro e w4 ⟨z4,f4,rfl,C4,B4⟩
 obtain⟨nf,caps,hfe,_⟩:=C.put
 subst hfe
 obtain⟨nf4,caps4,hfe4,_⟩:=C4.put
 subst hfe4
 have BA:Below w4.heap.size w4 (w4.alloc (.cells #[.int .i64 (z:Int),.func (.func nf) #[] caps,.int .i64 (z4:Int),.func (.func nf4) #[] caps4] 121)):=(Below.refl _ w4).alloc (Nat.le_refl _) _
 have hl4:=B4.size
 have CC:CsV cap (fun k=>k=g2) (w4.alloc (.cells #[.int .i64 (z:Int),.func (.func nf) #[] caps,.int .i64 (z4:Int),.func (.func nf4) #[] caps4] 121)) (.slice (some ⟨w4.heap.size,0,none⟩) 2 2) [cdT t,endC]:=by
  refine⟨[.int .i64 (z:Int),.func (.func nf) #[] caps,.int .i64 (z4:Int),.func (.func nf4) #[] caps4],⟨rfl,.inr ⟨w4.heap.size,2,_,rfl,Nat.zero_le _,heap_alloc_new w4 _,Nat.le_refl _,by unfold maxLen;omega,rfl,rfl⟩⟩,fun b hb'=>(by cases hb';intro h;have h2:w4.heap.size=g2:=h;omega),z,_,_,rfl,(C.below B4).below BA,z4,_,_,rfl,C4.below BA,rfl⟩
 have SQ:=Zaa (Zch (fun k=>k=g2) _ _ cap (by decide) _ CC (by simp) (fun k hk=>by have h2:k=g2:=hk;have:=BA.size;omega))
 have B2A:=(B3.trans (B4.mono B3.size)).trans (BA.mono (by omega))
 replace C:=Zaa C
 replace C4:=Zaa C4
 replace CC:=Zaa CC
 go_wp2_with (first|((with_reducible refine Zil ?_);refine wl_bs99b (n:=z) (fn:=.func nf) (xs:=#[]) (ys:=caps) (m:=z4) (gn:=.func nf4) (us:=#[]) (vs:=caps4) rfl rfl ?_;intro g6 w6 hg6 hw6;subst hg6;subst hw6))
 refine SQ.out.mono ?_
 rintro e w7 ⟨z7,f7,rfl,C7,B7⟩
 obtain⟨nf7,caps7,hfe7,_⟩:=C7.put
 subst hfe7
 have B27:=B2A.trans (B7.mono B2A.size)
 have BB:=hb.trans (B27.mono hb.size)
 have H3:=(H.call B27 (Nat.le_refl _)).only
 clear H
 have C7':CdOk cap (fun k=>Nope k\/k=g2) w7 z7 (.func (.func nf7) #[] caps7) (prg t):=C7.mono (Kp.refl _ _) (fun k h=>by rcases h with h|h;exact h.elim;exact .inl h)
 replace C7':=Zaa C7'
 clear C7 B2A B7 BA
 go_wp2_with (first|((with_reducible refine Zab 121 ?_);refine ZaU 0 (z':=z7) (f':=.func (.func nf7) #[] caps7) H3 rfl rfl rfl rfl ?_;clear H3;intro w8 H3))
 refine bodyPost_ret (Zaf rfl _ _ _ _ rfl (ZcI (H3.get 0 rfl))) rfl ?_
 exact CodeP.stored BB C7'.out H3.but q3
def MakeP (t:Tr)(w:World)(e:Ending)(w':World):Prop:=Below w.heap.size w w' /\
 (
  (2048<(prg t).n/\e=.returned (.tuple #[.slice none 0 0,.int .i64 110])) \/
  ((prg t).n<=2048/\∃ v,e=.returned (.tuple #[v,.int .i64 0])/\RI w' v ((prg t).put 0 0)/\∀ k,v.ownBlock=some k->w.heap.size<=k))
set_option maxRecDepth 100000 in
theorem make_ok (t:Tr)(P:Nat->Prop)(x:Value)(w:World)(T:TrV w P x t)(hf:ZcF t)(hsz:szT t<=4096)(hdp:dpT t<=128):Calls Tryz.prog 29 #[x] w (MakeP t w):=by
 have H:=St.start Nope w
 have hT:Hid (TrV w P x t):=T
 have CH:=Zaa (fun w' T=>check_any t P x w' T hf hsz hdp)
 have PR:=Zaa (fun w' T=>Zis t P x w' T hf (by omega))
 obtain⟨va,vn,vc,rfl⟩:=T.val
 clear T
 replace hf:=Zaa hf
 go_enter Tryz.func29,Tryz.ntmps29
 go_wp2_with (first|((with_reducible refine Zar 27 ?_);refine ZaM H rfl ?_;clear H;intro g1 w1 H q1 q2)|((with_reducible refine Zac 27 ?_);refine Zas 0 H rfl rfl ?_))
 refine (CH.out _ (hT.out.kept (fun b _ hl=>H.below.block b hl))).mono ?_
 rintro e w2 ⟨rfl,B2⟩
 replace H:=H.call B2 (Nat.le_refl _)
 go_wp2_with (first|((with_reducible refine Zac 27 ?_);refine Zas 0 H rfl rfl ?_))
 refine (PR.out _ (hT.out.kept (fun b _ hl=>H.below.block b hl))).mono ?_
 rintro e w3 ⟨z,f,rfl,C,B3⟩
 obtain⟨nf,caps,hfe,hcl,PF⟩:=C.put
 subst hfe
 replace H:=H.call B3 (Nat.le_refl _)
 have hz:=C.sz
 have hzn:(2048<z↔2048<(prg t).n):=by unfold SzOk cap at hz;omega
 by_cases hbig:2048<z
 ·have i1:(2048:Int)<(z:Int):=by omega
  replace C:=Zaa C
  replace PF:=Zaa PF
  go_wp2_with (first|((with_reducible refine Zae 121 ?_);refine ZaS H ?_;clear H;intro g4 w4 H q5 q6)|((with_reducible refine Zab 121 ?_);refine ZaU 0 H rfl rfl rfl rfl ?_;clear H;intro w5 H)|((with_reducible refine Zac 3 ?_);refine Zax 0 0 H (v:=.int .i64 (z:Int)) rfl rfl rfl ?_))
  go_ret2
  exact⟨H.below,.inl ⟨hzn.1 hbig,rfl⟩⟩
 ·have i1:¬ ((2048:Int)<(z:Int)):=by omega
  have hsm:(prg t).n<=2048:=by have:=hzn.2;omega
  have PP:Hid (∀ w5,Below w3.heap.size w3 w5->Calls Tryz.prog nf (#[.slice none 0 0,.int .i64 ((0:Nat):Int)]++caps) w5 (PutE w5 (.slice none 0 0) ((prg t).put 0 0))):=fun w5 hb=>by
   have:=PF w5 (.slice none 0 0) [] 0 ((Kp.refl _ _).below hb) (RI.nil _) (fun k hk=>by cases hk) (by simp;omega) (by omega)
   simpa using this
  have W3:=Zaa H.below
  replace C:=Zaa C
  replace PF:=Zaa PF
  have H3:=St.start Nope w3
  clear H
  go_wp2_with (first|((with_reducible refine Zae 121 ?_);refine ZaS H3 ?_;clear H3;intro g4 w4 H3 q5 q6)|((with_reducible refine Zab 121 ?_);refine ZaU 0 H3 rfl rfl rfl rfl ?_;clear H3;intro w5 H3)|((with_reducible refine Zac 3 ?_);refine Zax 0 0 H3 (v:=.int .i64 (z:Int)) rfl rfl rfl ?_)|((with_reducible refine Zac 119 ?_);refine Zly 0 1 H3 (v:=.func (.func nf) #[] caps) rfl rfl rfl ?_)|((with_reducible refine Zdj ?_);refine Zdm (u1:=.slice none 0 0) (u2:=.int .i64 ((0:Nat):Int)) rfl rfl rfl hcl ?_))
  have hb5:=H3.below
  refine (PP.out _ hb5).mono ?_
  rintro e w6 ⟨v,rfl,r6,b6,o6⟩
  refine⟨v,rfl,?_⟩
  have fin:Hid (MakeP t w (.returned (.tuple #[v,.int .i64 0])) w6):=by
   have B36:=hb5.trans (b6.below hb5.size (fun k hk=>by cases hk))
   refine⟨W3.out.trans (B36.mono W3.out.size),.inr ⟨hsm,v,rfl,r6,fun k hk=>?_⟩⟩
   have:=W3.out.size
   have:=hb5.size
   rcases o6 k hk with h|h
   ·cases h
   ·omega
  clear r6 b6 o6 H3
  go_wp2_with fail
  go_ret2
  exact fin.out
end
section
open Go.RowKit
def eqS (s t:S4):Bool:=s.a == t.a && (s.b == t.b && (s.c == t.c && s.d == t.d))
theorem run_eq24 (s t:S4)(d:Nat)(w:World):(Op.equalIn (d+2) 24 (Zbf s) (Zbf t)).run Tryz.prog w=.ok (eqS s t) w:=by
 have hi:∃ i,Tryz.prog.info? 22=some i:=by
  have h:(Tryz.prog.info? 22).isSome=true:=by kernel_rfl
  exact Option.isSome_iff_exists.1 h
 obtain⟨i,hi⟩:=hi
 have hc:Tryz.prog.cellsOf 22=1:=by kernel_rfl
 unfold Zbf
 rw [run_equalIn_array w (d+1) (e:=22) (n:=4) (Zce s) (Zce t) Tryz.underlying24 hi,hc]
 have hp:∀ (q:S4) (k:Nat),k<4->∀ w,(part 22 (Zce q) (k * 1)).run Tryz.prog w=.ok (.int .u64 (q.get k)) w:=fun q k hk w=>by
  rcases (show k=0\/k=1\/k=2\/k=3 by omega) with rfl|rfl|rfl|rfl <;> kernel_rfl
 have he:∀ (x y:Int) w,(Op.equalIn (d+1) 22 (.int .u64 x) (.int .u64 y)).run Tryz.prog w=.ok (x == y) w:=fun x y w=>run_equalIn_int w d 22 .u64 .u64 x y Tryz.underlying22
 have h0:∀ q:S4,q.get 0=q.a:=fun _=>rfl
 have h1:∀ q:S4,q.get 1=q.b:=fun _=>rfl
 have h2:∀ q:S4,q.get 2=q.c:=fun _=>rfl
 have h3:∀ q:S4,q.get 3=q.d:=fun _=>rfl
 have step:∀ k ks,k<4->∀ w,(Op.eqItems (d+1) 22 1 (Zce s) (Zce t) (k::ks)).run Tryz.prog w=if (s.get k == t.get k)=true then (Op.eqItems (d+1) 22 1 (Zce s) (Zce t) ks).run Tryz.prog w else .ok false w:=fun k ks hk w=>by
  simp only [Op.eqItems,Sem.run_bind,hp _ k hk,he,Result.andThen_ok]
  cases (s.get k == t.get k) <;> simp
 have last:∀ w,(Op.eqItems (d+1) 22 1 (Zce s) (Zce t) []).run Tryz.prog w=.ok true w:=fun w=>by simp [Op.eqItems]
 rw [show List.range 4=[0,1,2,3] from rfl,step 0 _ (by decide),step 1 _ (by decide),step 2 _ (by decide),step 3 _ (by decide),last,h0,h0,h1,h1,h2,h2,h3,h3]
 unfold eqS
 cases (s.a == t.a) <;> cases (s.b == t.b) <;> cases (s.c == t.c) <;> cases (s.d == t.d) <;> rfl
theorem Zb9 (s t:S4)(w:World):(binOp .neq 24 (Zbf s) (Zbf t)).run Tryz.prog w=.ok (.bool (!eqS s t)) w:=by
 have h:=run_eq24 s t 9998 w
 unfold Zbf at h ⊢
 rw [run_neq_struct,h]
 rfl
structure Fm where
 nm:ByteArray
 hs:Bool
 ex:Nat
def fmV (f:Fm):Value:=.agg #[.string f.nm,.bool f.hs,.int .i64 (f.ex:Int)]
def fmA (f:Fm):Array Value:=#[.string f.nm,.bool f.hs,.int .i64 (f.ex:Int)]
def ZlY:ByteArray:=⟨#[98,121,116,101]⟩
def Zha:ByteArray:=⟨#[115,112,108,105,116]⟩
def nEnd:ByteArray:=⟨#[101,110,100]⟩
def ZlZ:ByteArray:=⟨#[106,117,109,112]⟩
def fm (op:Int):Fm:=if op=1 then ⟨ZlY,true,1⟩ else if op=2 then ⟨Zha,false,2⟩ else if op=3 then ⟨nEnd,false,0⟩ else if op=4 then ⟨ZlZ,false,1⟩ else ⟨⟨#[]⟩,false,0⟩
theorem sizeF:(Tryz.prog.info? 228).map (·.size)=some 3:=by kernel_rfl
theorem Zku {w:World}{g:Nat}{f:Fm}(h:w.heap[g]?=some (.cells (fmA f) 228 (0,0))):(loadVar 228 ⟨g,0,none⟩).run Tryz.prog w=.ok (fmV f) w :=
 run_loadVar_row w g 228 228 _ (0,0) _ h Tryz.underlying228 rfl sizeF
section
variable {S:Nat->Prop}{w0 w w':World}{L:List Ent}{ops:Array Oper}{rest:List Oper}{a:Act}{Q:Exit->Act->World->Prop}{dst:Option Nat}{x y z:Operand}{ty:TypeId}{pos:String}{after:Array Edge}
theorem ZcO (H:St S w0 w L)(h:∀ g w',St S w0 w' ((true,g,228,fmA ⟨⟨#[]⟩,false,0⟩)::L)->w0.heap.size<=g->w.heap.size<=g->wpList Tryz.prog ops Q rest (a.put dst (.pointer (some ⟨g,0,none⟩))) w'):wpList Tryz.prog ops Q (⟨dst,.alloc 228,ty,pos,after,none⟩::rest) a w:=by
 refine ZaI (w':=w.alloc (.cells (fmA ⟨⟨#[]⟩,false,0⟩) 228)) ?_ (h _ _ (H.alloc 228 _) H.but.size (Nat.le_refl _))
 unfold execOp
 kernel_rfl
theorem ZcP (H:St S w0 w L){f:Fm}(hx:a.eval x=fmV f)(h:∀ g w',St S w0 w' ((true,g,228,fmA f)::L)->w0.heap.size<=g->w.heap.size<=g->wpList Tryz.prog ops Q rest (a.put dst (.pointer (some ⟨g,0,none⟩))) w'):wpList Tryz.prog ops Q (⟨dst,.box 228 x,ty,pos,after,none⟩::rest) a w:=by
 refine ZaI (w':=w.alloc (.cells (fmA f) 228)) ?_ (h _ _ (H.alloc 228 _) H.but.size (Nat.le_refl _))
 unfold execOp
 simp only [hx]
 kernel_rfl
theorem ZcQ (i:Nat)(H:St S w0 w L){g:Nat}{f f':Fm}(h:L[i]?=some (true,g,228,fmA f))(hx:a.eval x=.pointer (some ⟨g,0,none⟩))(hy:a.eval y=fmV f')
  (k:∀ w',St S w0 w' (L.set i (true,g,228,fmA f'))->wpList Tryz.prog ops Q rest a w'):wpList Tryz.prog ops Q (⟨none,.store 228 x y,ty,pos,after,none⟩::rest) a w :=
 Zc2 i 228 H h hx hy sizeF rfl (by have h2:∀ k n,(Value.int k n).oneCell'=true:=fun _ _=>rfl;have h3:∀ s,(Value.string s).oneCell'=true:=fun _=>rfl;have h4:∀ s,(Value.bool s).oneCell'=true:=fun _=>rfl;simp [fmA,h2,h3,h4]) k
end
theorem formOf_1 (w:World):Calls Tryz.prog 209 #[.int .i64 1] w fun e w'=>e=.returned (fmV ⟨ZlY,true,1⟩)/\Below w.heap.size w w':=by
 have H:=St.start Nope w
 go_enter Tryz.func209,Tryz.ntmps209
 go_wp2_with (first|((with_reducible refine Zae 228 ?_);refine ZcO H ?_;clear H;intro g1 w1 H q1 q2)|((with_reducible refine Zbe 228 ?_);refine ZaI (v:=fmV ⟨ZlY,true,1⟩) (w':=w1) (by unfold execOp;simp only [List.map_toArray,List.map_cons,List.map_nil];kernel_rfl) ?_)|((with_reducible refine Zab 228 ?_);refine ZcQ 0 (f':=⟨ZlY,true,1⟩) H rfl rfl rfl ?_;clear H;intro w2 H))
 refine bodyPost_ret (Zaf rfl _ _ _ _ rfl (Zku (H.get 0 rfl))) rfl ?_
 exact⟨rfl,H.below⟩
theorem formOf_2 (w:World):Calls Tryz.prog 209 #[.int .i64 2] w fun e w'=>e=.returned (fmV ⟨Zha,false,2⟩)/\Below w.heap.size w w':=by
 have H:=St.start Nope w
 go_enter Tryz.func209,Tryz.ntmps209
 go_wp2_with (first|((with_reducible refine Zae 228 ?_);refine ZcO H ?_;clear H;intro g1 w1 H q1 q2)|((with_reducible refine Zbe 228 ?_);refine ZaI (v:=fmV ⟨Zha,false,2⟩) (w':=w1) (by unfold execOp;simp only [List.map_toArray,List.map_cons,List.map_nil];kernel_rfl) ?_)|((with_reducible refine Zab 228 ?_);refine ZcQ 0 (f':=⟨Zha,false,2⟩) H rfl rfl rfl ?_;clear H;intro w2 H))
 refine bodyPost_ret (Zaf rfl _ _ _ _ rfl (Zku (H.get 0 rfl))) rfl ?_
 exact⟨rfl,H.below⟩
theorem formOf_3 (w:World):Calls Tryz.prog 209 #[.int .i64 3] w fun e w'=>e=.returned (fmV ⟨nEnd,false,0⟩)/\Below w.heap.size w w':=by
 have H:=St.start Nope w
 go_enter Tryz.func209,Tryz.ntmps209
 go_wp2_with (first|((with_reducible refine Zae 228 ?_);refine ZcO H ?_;clear H;intro g1 w1 H q1 q2)|((with_reducible refine Zbe 228 ?_);refine ZaI (v:=fmV ⟨nEnd,false,0⟩) (w':=w1) (by unfold execOp;simp only [List.map_toArray,List.map_cons,List.map_nil];kernel_rfl) ?_)|((with_reducible refine Zab 228 ?_);refine ZcQ 0 (f':=⟨nEnd,false,0⟩) H rfl rfl rfl ?_;clear H;intro w2 H))
 refine bodyPost_ret (Zaf rfl _ _ _ _ rfl (Zku (H.get 0 rfl))) rfl ?_
 exact⟨rfl,H.below⟩
theorem formOf_4 (w:World):Calls Tryz.prog 209 #[.int .i64 4] w fun e w'=>e=.returned (fmV ⟨ZlZ,false,1⟩)/\Below w.heap.size w w':=by
 have H:=St.start Nope w
 go_enter Tryz.func209,Tryz.ntmps209
 go_wp2_with (first|((with_reducible refine Zae 228 ?_);refine ZcO H ?_;clear H;intro g1 w1 H q1 q2)|((with_reducible refine Zbe 228 ?_);refine ZaI (v:=fmV ⟨ZlZ,false,1⟩) (w':=w1) (by unfold execOp;simp only [List.map_toArray,List.map_cons,List.map_nil];kernel_rfl) ?_)|((with_reducible refine Zab 228 ?_);refine ZcQ 0 (f':=⟨ZlZ,false,1⟩) H rfl rfl rfl ?_;clear H;intro w2 H))
 refine bodyPost_ret (Zaf rfl _ _ _ _ rfl (Zku (H.get 0 rfl))) rfl ?_
 exact⟨rfl,H.below⟩
theorem formOf_0 (op:Int)(n1:(op == 1)=false)(n2:(op == 2)=false)(n3:(op == 3)=false)(n4:(op == 4)=false)(w:World):Calls Tryz.prog 209 #[.int .i64 op] w fun e w'=>e=.returned (fmV ⟨⟨#[]⟩,false,0⟩)/\Below w.heap.size w w':=by
 have H:=St.start Nope w
 go_enter Tryz.func209,Tryz.ntmps209
 go_wp2_with (first|((with_reducible refine Zae 228 ?_);refine ZcO H ?_;clear H;intro g1 w1 H q1 q2)|((with_reducible refine Zbe 228 ?_);refine ZaI (v:=fmV ⟨⟨#[]⟩,false,0⟩) (w':=w1) (by unfold execOp;simp only [List.map_toArray,List.map_cons,List.map_nil];kernel_rfl) ?_)|((with_reducible refine Zab 228 ?_);refine ZcQ 0 (f':=⟨⟨#[]⟩,false,0⟩) H rfl rfl rfl ?_;clear H;intro w2 H))
 refine bodyPost_ret (Zaf rfl _ _ _ _ rfl (Zku (H.get 0 rfl))) rfl ?_
 exact⟨rfl,H.below⟩
theorem Zd0 (op:Int)(w:World):Calls Tryz.prog 209 #[.int .i64 op] w fun e w'=>e=.returned (fmV (fm op))/\Below w.heap.size w w':=by
 unfold fm
 split
 ·subst op;exact formOf_1 w
 ·split
  ·subst op;exact formOf_2 w
  ·split
   ·subst op;exact formOf_3 w
   ·split
    ·subst op;exact formOf_4 w
    ·rename_i h1 h2 h3 h4
     exact formOf_0 op (beq_eq_false_iff_ne.2 h1) (beq_eq_false_iff_ne.2 h2) (beq_eq_false_iff_ne.2 h3) (beq_eq_false_iff_ne.2 h4) w
end
section
open Go.RowKit
def inB (z b:Int):Bool:=decide (0<=z) && decide (z<b)
def bnd (ex n j:Nat):Int:=if j<ex then (n:Int) else 1
def Zk8 (i:Ins)(n:Nat):Bool:=(i.op == 1 || (i.op == 2 || i.op == 3 || i.op == 4) && eqS i.s noSet) && (inB i.x (bnd (fm i.op).ex n 0) && inB i.y (bnd (fm i.op).ex n 1))
theorem ZcR {z b:Int}(h:z<0):inB z b=false:=by simp [inB];omega
theorem Zec {z b:Int}(h:¬ z<b):inB z b=false:=by simp [inB];omega
theorem Zed {z b:Int}(h:¬ z<0)(h2:z<b):inB z b=true:=by simp [inB];omega
theorem Zga:Tryz.prog.eqGuardType Tryz.prog.depth 24=false:=by kernel_rfl
theorem run_bs48 (x y:Int)(w:World):(Instr.buildSlice 230 2 #[(0,.int .i64 x),(1,.int .i64 y)]).run Tryz.prog w=.ok (.slice (some ⟨w.heap.size,0,none⟩) 2 2) (w.alloc (.cells #[.int .i64 x,.int .i64 y] 3)):=by kernel_rfl
section
variable {S:Nat->Prop}{w0 w w':World}{L:List Ent}{ops:Array Oper}{rest:List Oper}{a:Act}{Q:Exit->Act->World->Prop}{dst:Option Nat}{p q:Operand}{ty:TypeId}{pos:String}{after:Array Edge}
theorem Zdp {ps:Array (Nat × Operand)}{n:Nat}(h:wpList Tryz.prog ops Q (⟨dst,.buildSlice 230 n ps,ty,pos,after,none⟩::rest) a w):wpList Tryz.prog ops Q (⟨dst,.buildSlice 230 n ps,ty,pos,after,none⟩::rest) a w:=h
theorem Zdq (H:St S w0 w L){x y:Int}(hx:a.eval p=.int .i64 x)(hy:a.eval q=.int .i64 y)(k:∀ g w',St S w0 w' ((true,g,3,#[.int .i64 x,.int .i64 y])::L)->w0.heap.size<=g->wpList Tryz.prog ops Q rest (a.put dst (.slice (some ⟨g,0,none⟩) 2 2)) w'):wpList Tryz.prog ops Q (⟨dst,.buildSlice 230 2 #[(0,p),(1,q)],ty,pos,after,none⟩::rest) a w:=by
 refine ZaI (w':=w.alloc (.cells #[.int .i64 x,.int .i64 y] 3)) ?_ (k _ _ (H.alloc 3 _) H.but.size)
 unfold execOp
 simp only [List.map_toArray,List.map_cons,List.map_nil,hx,hy,Sem.run_bind,run_bs48,Result.andThen_ok,Sem.run_pure]
end
set_option maxRecDepth 100000 in
theorem fitI_1 (s:S4)(x y:Int)(n:Nat)(w:World):Calls Tryz.prog 164 #[fmV ⟨⟨#[98,121,116,101]⟩,true,1⟩,ZdB ⟨1,s,x,y⟩,.int .i64 (n:Int)] w fun e w'=>e=.returned (.bool ((inB x (n:Int) && inB y 1)))/\Below w.heap.size w w':=by
 have H:=St.start Nope w
 have kg:=Zga
 generalize hres:(inB x (n:Int) && inB y 1)=res
 replace hres:=Zaa hres
 go_enter Tryz.func164,Tryz.ntmps164
 go_wp2_with (first|((with_reducible refine Zar 228 ?_);refine ZcP (f:=⟨⟨#[98,121,116,101]⟩,true,1⟩) H rfl ?_;clear H;intro g3 w3 H q1 q2)|((with_reducible refine Zar 182 ?_);refine Zcu (i:=⟨1,s,x,y⟩) H rfl ?_;clear H;intro g4 w4 H q3 q4;have a0:=H.cell 1 0 rfl (v:=.string ⟨#[98,121,116,101]⟩) rfl;have a1:=H.cell 1 1 rfl (v:=.bool true) rfl;have a2:=H.cell 1 2 rfl (v:=.int .i64 1) rfl;have b1:=H.cell 0 1 rfl (v:=.int .u64 s.a) rfl;have b2:=H.cell 0 2 rfl (v:=.int .u64 s.b) rfl;have b3:=H.cell 0 3 rfl (v:=.int .u64 s.c) rfl;have b4:=H.cell 0 4 rfl (v:=.int .u64 s.d) rfl;have b5:=H.cell 0 5 rfl (v:=.int .i64 x) rfl;have b6:=H.cell 0 6 rfl (v:=.int .i64 y) rfl)|((with_reducible refine Zdp ?_);refine Zdq H (x:=x) (y:=y) rfl rfl ?_;clear H;intro g5 w5 H q5;clear a0 a1 a2 b1 b2 b3 b4 b5 b6;have a0:=H.cell 2 0 rfl (v:=.string ⟨#[98,121,116,101]⟩) rfl;have a1:=H.cell 2 1 rfl (v:=.bool true) rfl;have a2:=H.cell 2 2 rfl (v:=.int .i64 1) rfl;have b1:=H.cell 1 1 rfl (v:=.int .u64 s.a) rfl;have b2:=H.cell 1 2 rfl (v:=.int .u64 s.b) rfl;have b3:=H.cell 1 3 rfl (v:=.int .u64 s.c) rfl;have b4:=H.cell 1 4 rfl (v:=.int .u64 s.d) rfl;have b5:=H.cell 1 5 rfl (v:=.int .i64 x) rfl;have b6:=H.cell 1 6 rfl (v:=.int .i64 y) rfl;have d0:=H.cell 0 0 rfl (v:=.int .i64 x) rfl;have d1:=H.cell 0 1 rfl (v:=.int .i64 y) rfl))
 have HB:=Zaa H.below
 replace H:=Zaa H
 go_loop [30] (fun iv=>∃ j:Nat,j<=2/\iv=.int .i64 (j:Int)/\Hid (1<=j->inB x (n:Int)=true)/\Hid (2<=j->inB y 1=true)) (fun iv=>2 - (intOf iv).toNat)
 case atStart=>exact⟨0,by omega,rfl,(fun h=>by omega),(fun h=>by omega)⟩
 case round =>
  obtain⟨j,hj,rfl,h1,h2⟩:=hrel
  rcases (show j=0\/j=1\/j=2 by omega) with rfl|rfl|rfl
  ·by_cases hx:x<0
   ·go_wp2
    go_ret
    exact⟨by rw [<- hres.out,ZcR hx];rfl,HB.out⟩
   ·by_cases hx2:x<(n:Int)
    ·have hx3:¬ ((n:Int)<=x):=by omega
     have hok:=Zaa (Zed hx hx2)
     go_wp2
     go_round
     case rel=>exact⟨1,by omega,by go_num,(fun _=>hok.out),(fun h=>by omega)⟩
     case measure=>simp [intOf]
    ·have hx3:(n:Int)<=x:=by omega
     have hno:=Zaa (Zec hx2)
     go_wp2
     go_ret
     exact⟨by rw [<- hres.out,hno.out];rfl,HB.out⟩
  ·by_cases hy:y<0
   ·go_wp2
    go_ret
    exact⟨by rw [<- hres.out,ZcR hy,Bool.and_false];rfl,HB.out⟩
   ·by_cases hy2:y<1
    ·have hy3:¬ (1<=y):=by omega
     have hok:=Zaa (Zed hy hy2)
     go_wp2
     go_round
     case rel=>exact⟨2,by omega,by go_num,(fun _=>h1.out (by omega)),(fun _=>hok.out)⟩
     case measure=>simp [intOf]
    ·have hy3:1<=y:=by omega
     have hno:=Zaa (Zec hy2)
     go_wp2
     go_ret
     exact⟨by rw [<- hres.out,hno.out,Bool.and_false];rfl,HB.out⟩
  ·go_wp2
   go_ret
   exact⟨by rw [<- hres.out,h1.out (by omega),h2.out (by omega)];rfl,HB.out⟩
set_option maxRecDepth 100000 in
theorem fitI_2 (s:S4)(x y:Int)(n:Nat)(w:World):Calls Tryz.prog 164 #[fmV ⟨⟨#[115,112,108,105,116]⟩,false,2⟩,ZdB ⟨2,s,x,y⟩,.int .i64 (n:Int)] w fun e w'=>e=.returned (.bool (eqS s noSet && (inB x (n:Int) && inB y (n:Int))))/\Below w.heap.size w w':=by
 have H:=St.start Nope w
 have kg:=Zga
 cases hset:eqS s noSet with
 | false =>
  have kn:∀ w,(binOp .neq 24 (.agg #[.int .u64 s.a,.int .u64 s.b,.int .u64 s.c,.int .u64 s.d]) (.agg #[.int .u64 0,.int .u64 0,.int .u64 0,.int .u64 0])).run Tryz.prog w=.ok (.bool true) w:=fun w=>by have:=Zb9 s noSet w;rw [hset] at this;exact this
  go_enter Tryz.func164,Tryz.ntmps164
  go_wp2_with (first|((with_reducible refine Zar 228 ?_);refine ZcP (f:=⟨⟨#[115,112,108,105,116]⟩,false,2⟩) H rfl ?_;clear H;intro g3 w3 H q1 q2)|((with_reducible refine Zar 182 ?_);refine Zcu (i:=⟨2,s,x,y⟩) H rfl ?_;clear H;intro g4 w4 H q3 q4;have a0:=H.cell 1 0 rfl (v:=.string ⟨#[115,112,108,105,116]⟩) rfl;have a1:=H.cell 1 1 rfl (v:=.bool false) rfl;have a2:=H.cell 1 2 rfl (v:=.int .i64 2) rfl;have b1:=H.cell 0 1 rfl (v:=.int .u64 s.a) rfl;have b2:=H.cell 0 2 rfl (v:=.int .u64 s.b) rfl;have b3:=H.cell 0 3 rfl (v:=.int .u64 s.c) rfl;have b4:=H.cell 0 4 rfl (v:=.int .u64 s.d) rfl;have b5:=H.cell 0 5 rfl (v:=.int .i64 x) rfl;have b6:=H.cell 0 6 rfl (v:=.int .i64 y) rfl)|((with_reducible refine Zdp ?_);refine Zdq H (x:=x) (y:=y) rfl rfl ?_;clear H;intro g5 w5 H q5;clear a0 a1 a2 b1 b2 b3 b4 b5 b6;have a0:=H.cell 2 0 rfl (v:=.string ⟨#[115,112,108,105,116]⟩) rfl;have a1:=H.cell 2 1 rfl (v:=.bool false) rfl;have a2:=H.cell 2 2 rfl (v:=.int .i64 2) rfl;have b1:=H.cell 1 1 rfl (v:=.int .u64 s.a) rfl;have b2:=H.cell 1 2 rfl (v:=.int .u64 s.b) rfl;have b3:=H.cell 1 3 rfl (v:=.int .u64 s.c) rfl;have b4:=H.cell 1 4 rfl (v:=.int .u64 s.d) rfl;have b5:=H.cell 1 5 rfl (v:=.int .i64 x) rfl;have b6:=H.cell 1 6 rfl (v:=.int .i64 y) rfl;have d0:=H.cell 0 0 rfl (v:=.int .i64 x) rfl;have d1:=H.cell 0 1 rfl (v:=.int .i64 y) rfl))
  go_ret
  exact⟨rfl,H.below⟩
 | true =>
  have kn:∀ w,(binOp .neq 24 (.agg #[.int .u64 s.a,.int .u64 s.b,.int .u64 s.c,.int .u64 s.d]) (.agg #[.int .u64 0,.int .u64 0,.int .u64 0,.int .u64 0])).run Tryz.prog w=.ok (.bool false) w:=fun w=>by have:=Zb9 s noSet w;rw [hset] at this;exact this
  replace hset:=Zaa hset
  rw [Bool.true_and]
  generalize hres:(inB x (n:Int) && inB y (n:Int))=res
  replace hres:=Zaa hres
  go_enter Tryz.func164,Tryz.ntmps164
  go_wp2_with (first|((with_reducible refine Zar 228 ?_);refine ZcP (f:=⟨⟨#[115,112,108,105,116]⟩,false,2⟩) H rfl ?_;clear H;intro g3 w3 H q1 q2)|((with_reducible refine Zar 182 ?_);refine Zcu (i:=⟨2,s,x,y⟩) H rfl ?_;clear H;intro g4 w4 H q3 q4;have a0:=H.cell 1 0 rfl (v:=.string ⟨#[115,112,108,105,116]⟩) rfl;have a1:=H.cell 1 1 rfl (v:=.bool false) rfl;have a2:=H.cell 1 2 rfl (v:=.int .i64 2) rfl;have b1:=H.cell 0 1 rfl (v:=.int .u64 s.a) rfl;have b2:=H.cell 0 2 rfl (v:=.int .u64 s.b) rfl;have b3:=H.cell 0 3 rfl (v:=.int .u64 s.c) rfl;have b4:=H.cell 0 4 rfl (v:=.int .u64 s.d) rfl;have b5:=H.cell 0 5 rfl (v:=.int .i64 x) rfl;have b6:=H.cell 0 6 rfl (v:=.int .i64 y) rfl)|((with_reducible refine Zdp ?_);refine Zdq H (x:=x) (y:=y) rfl rfl ?_;clear H;intro g5 w5 H q5;clear a0 a1 a2 b1 b2 b3 b4 b5 b6;have a0:=H.cell 2 0 rfl (v:=.string ⟨#[115,112,108,105,116]⟩) rfl;have a1:=H.cell 2 1 rfl (v:=.bool false) rfl;have a2:=H.cell 2 2 rfl (v:=.int .i64 2) rfl;have b1:=H.cell 1 1 rfl (v:=.int .u64 s.a) rfl;have b2:=H.cell 1 2 rfl (v:=.int .u64 s.b) rfl;have b3:=H.cell 1 3 rfl (v:=.int .u64 s.c) rfl;have b4:=H.cell 1 4 rfl (v:=.int .u64 s.d) rfl;have b5:=H.cell 1 5 rfl (v:=.int .i64 x) rfl;have b6:=H.cell 1 6 rfl (v:=.int .i64 y) rfl;have d0:=H.cell 0 0 rfl (v:=.int .i64 x) rfl;have d1:=H.cell 0 1 rfl (v:=.int .i64 y) rfl))
  have HB:=Zaa H.below
  replace H:=Zaa H
  go_loop [30] (fun iv=>∃ j:Nat,j<=2/\iv=.int .i64 (j:Int)/\Hid (1<=j->inB x (n:Int)=true)/\Hid (2<=j->inB y (n:Int)=true)) (fun iv=>2 - (intOf iv).toNat)
  case atStart=>exact⟨0,by omega,rfl,(fun h=>by omega),(fun h=>by omega)⟩
  case round =>
   obtain⟨j,hj,rfl,h1,h2⟩:=hrel
   rcases (show j=0\/j=1\/j=2 by omega) with rfl|rfl|rfl
   ·by_cases hx:x<0
    ·go_wp2
     go_ret
     exact⟨by rw [<- hres.out,ZcR hx];rfl,HB.out⟩
    ·by_cases hx2:x<(n:Int)
     ·have hx3:¬ ((n:Int)<=x):=by omega
      have hok:=Zaa (Zed hx hx2)
      go_wp2
      go_round
      case rel=>exact⟨1,by omega,by go_num,(fun _=>hok.out),(fun h=>by omega)⟩
      case measure=>simp [intOf]
     ·have hx3:(n:Int)<=x:=by omega
      have hno:=Zaa (Zec hx2)
      go_wp2
      go_ret
      exact⟨by rw [<- hres.out,hno.out];rfl,HB.out⟩
   ·by_cases hy:y<0
    ·go_wp2
     go_ret
     exact⟨by rw [<- hres.out,ZcR hy,Bool.and_false];rfl,HB.out⟩
    ·by_cases hy2:y<(n:Int)
     ·have hy3:¬ ((n:Int)<=y):=by omega
      have hok:=Zaa (Zed hy hy2)
      go_wp2
      go_round
      case rel=>exact⟨2,by omega,by go_num,(fun _=>h1.out (by omega)),(fun _=>hok.out)⟩
      case measure=>simp [intOf]
     ·have hy3:(n:Int)<=y:=by omega
      have hno:=Zaa (Zec hy2)
      go_wp2
      go_ret
      exact⟨by rw [<- hres.out,hno.out,Bool.and_false];rfl,HB.out⟩
   ·go_wp2
    go_ret
    exact⟨by rw [<- hres.out,h1.out (by omega),h2.out (by omega)];rfl,HB.out⟩
set_option maxRecDepth 100000 in
theorem fitI_3 (s:S4)(x y:Int)(n:Nat)(w:World):Calls Tryz.prog 164 #[fmV ⟨⟨#[101,110,100]⟩,false,0⟩,ZdB ⟨3,s,x,y⟩,.int .i64 (n:Int)] w fun e w'=>e=.returned (.bool (eqS s noSet && (inB x 1 && inB y 1)))/\Below w.heap.size w w':=by
 have H:=St.start Nope w
 have kg:=Zga
 cases hset:eqS s noSet with
 | false =>
  have kn:∀ w,(binOp .neq 24 (.agg #[.int .u64 s.a,.int .u64 s.b,.int .u64 s.c,.int .u64 s.d]) (.agg #[.int .u64 0,.int .u64 0,.int .u64 0,.int .u64 0])).run Tryz.prog w=.ok (.bool true) w:=fun w=>by have:=Zb9 s noSet w;rw [hset] at this;exact this
  go_enter Tryz.func164,Tryz.ntmps164
  go_wp2_with (first|((with_reducible refine Zar 228 ?_);refine ZcP (f:=⟨⟨#[101,110,100]⟩,false,0⟩) H rfl ?_;clear H;intro g3 w3 H q1 q2)|((with_reducible refine Zar 182 ?_);refine Zcu (i:=⟨3,s,x,y⟩) H rfl ?_;clear H;intro g4 w4 H q3 q4;have a0:=H.cell 1 0 rfl (v:=.string ⟨#[101,110,100]⟩) rfl;have a1:=H.cell 1 1 rfl (v:=.bool false) rfl;have a2:=H.cell 1 2 rfl (v:=.int .i64 0) rfl;have b1:=H.cell 0 1 rfl (v:=.int .u64 s.a) rfl;have b2:=H.cell 0 2 rfl (v:=.int .u64 s.b) rfl;have b3:=H.cell 0 3 rfl (v:=.int .u64 s.c) rfl;have b4:=H.cell 0 4 rfl (v:=.int .u64 s.d) rfl;have b5:=H.cell 0 5 rfl (v:=.int .i64 x) rfl;have b6:=H.cell 0 6 rfl (v:=.int .i64 y) rfl)|((with_reducible refine Zdp ?_);refine Zdq H (x:=x) (y:=y) rfl rfl ?_;clear H;intro g5 w5 H q5;clear a0 a1 a2 b1 b2 b3 b4 b5 b6;have a0:=H.cell 2 0 rfl (v:=.string ⟨#[101,110,100]⟩) rfl;have a1:=H.cell 2 1 rfl (v:=.bool false) rfl;have a2:=H.cell 2 2 rfl (v:=.int .i64 0) rfl;have b1:=H.cell 1 1 rfl (v:=.int .u64 s.a) rfl;have b2:=H.cell 1 2 rfl (v:=.int .u64 s.b) rfl;have b3:=H.cell 1 3 rfl (v:=.int .u64 s.c) rfl;have b4:=H.cell 1 4 rfl (v:=.int .u64 s.d) rfl;have b5:=H.cell 1 5 rfl (v:=.int .i64 x) rfl;have b6:=H.cell 1 6 rfl (v:=.int .i64 y) rfl;have d0:=H.cell 0 0 rfl (v:=.int .i64 x) rfl;have d1:=H.cell 0 1 rfl (v:=.int .i64 y) rfl))
  go_ret
  exact⟨rfl,H.below⟩
 | true =>
  have kn:∀ w,(binOp .neq 24 (.agg #[.int .u64 s.a,.int .u64 s.b,.int .u64 s.c,.int .u64 s.d]) (.agg #[.int .u64 0,.int .u64 0,.int .u64 0,.int .u64 0])).run Tryz.prog w=.ok (.bool false) w:=fun w=>by have:=Zb9 s noSet w;rw [hset] at this;exact this
  replace hset:=Zaa hset
  rw [Bool.true_and]
  generalize hres:(inB x 1 && inB y 1)=res
  replace hres:=Zaa hres
  go_enter Tryz.func164,Tryz.ntmps164
  go_wp2_with (first|((with_reducible refine Zar 228 ?_);refine ZcP (f:=⟨⟨#[101,110,100]⟩,false,0⟩) H rfl ?_;clear H;intro g3 w3 H q1 q2)|((with_reducible refine Zar 182 ?_);refine Zcu (i:=⟨3,s,x,y⟩) H rfl ?_;clear H;intro g4 w4 H q3 q4;have a0:=H.cell 1 0 rfl (v:=.string ⟨#[101,110,100]⟩) rfl;have a1:=H.cell 1 1 rfl (v:=.bool false) rfl;have a2:=H.cell 1 2 rfl (v:=.int .i64 0) rfl;have b1:=H.cell 0 1 rfl (v:=.int .u64 s.a) rfl;have b2:=H.cell 0 2 rfl (v:=.int .u64 s.b) rfl;have b3:=H.cell 0 3 rfl (v:=.int .u64 s.c) rfl;have b4:=H.cell 0 4 rfl (v:=.int .u64 s.d) rfl;have b5:=H.cell 0 5 rfl (v:=.int .i64 x) rfl;have b6:=H.cell 0 6 rfl (v:=.int .i64 y) rfl)|((with_reducible refine Zdp ?_);refine Zdq H (x:=x) (y:=y) rfl rfl ?_;clear H;intro g5 w5 H q5;clear a0 a1 a2 b1 b2 b3 b4 b5 b6;have a0:=H.cell 2 0 rfl (v:=.string ⟨#[101,110,100]⟩) rfl;have a1:=H.cell 2 1 rfl (v:=.bool false) rfl;have a2:=H.cell 2 2 rfl (v:=.int .i64 0) rfl;have b1:=H.cell 1 1 rfl (v:=.int .u64 s.a) rfl;have b2:=H.cell 1 2 rfl (v:=.int .u64 s.b) rfl;have b3:=H.cell 1 3 rfl (v:=.int .u64 s.c) rfl;have b4:=H.cell 1 4 rfl (v:=.int .u64 s.d) rfl;have b5:=H.cell 1 5 rfl (v:=.int .i64 x) rfl;have b6:=H.cell 1 6 rfl (v:=.int .i64 y) rfl;have d0:=H.cell 0 0 rfl (v:=.int .i64 x) rfl;have d1:=H.cell 0 1 rfl (v:=.int .i64 y) rfl))
  have HB:=Zaa H.below
  replace H:=Zaa H
  go_loop [30] (fun iv=>∃ j:Nat,j<=2/\iv=.int .i64 (j:Int)/\Hid (1<=j->inB x 1=true)/\Hid (2<=j->inB y 1=true)) (fun iv=>2 - (intOf iv).toNat)
  case atStart=>exact⟨0,by omega,rfl,(fun h=>by omega),(fun h=>by omega)⟩
  case round =>
   obtain⟨j,hj,rfl,h1,h2⟩:=hrel
   rcases (show j=0\/j=1\/j=2 by omega) with rfl|rfl|rfl
   ·by_cases hx:x<0
    ·go_wp2
     go_ret
     exact⟨by rw [<- hres.out,ZcR hx];rfl,HB.out⟩
    ·by_cases hx2:x<1
     ·have hx3:¬ (1<=x):=by omega
      have hok:=Zaa (Zed hx hx2)
      go_wp2
      go_round
      case rel=>exact⟨1,by omega,by go_num,(fun _=>hok.out),(fun h=>by omega)⟩
      case measure=>simp [intOf]
     ·have hx3:1<=x:=by omega
      have hno:=Zaa (Zec hx2)
      go_wp2
      go_ret
      exact⟨by rw [<- hres.out,hno.out];rfl,HB.out⟩
   ·by_cases hy:y<0
    ·go_wp2
     go_ret
     exact⟨by rw [<- hres.out,ZcR hy,Bool.and_false];rfl,HB.out⟩
    ·by_cases hy2:y<1
     ·have hy3:¬ (1<=y):=by omega
      have hok:=Zaa (Zed hy hy2)
      go_wp2
      go_round
      case rel=>exact⟨2,by omega,by go_num,(fun _=>h1.out (by omega)),(fun _=>hok.out)⟩
      case measure=>simp [intOf]
     ·have hy3:1<=y:=by omega
      have hno:=Zaa (Zec hy2)
      go_wp2
      go_ret
      exact⟨by rw [<- hres.out,hno.out,Bool.and_false];rfl,HB.out⟩
   ·go_wp2
    go_ret
    exact⟨by rw [<- hres.out,h1.out (by omega),h2.out (by omega)];rfl,HB.out⟩
set_option maxRecDepth 100000 in
theorem fitI_4 (s:S4)(x y:Int)(n:Nat)(w:World):Calls Tryz.prog 164 #[fmV ⟨⟨#[106,117,109,112]⟩,false,1⟩,ZdB ⟨4,s,x,y⟩,.int .i64 (n:Int)] w fun e w'=>e=.returned (.bool (eqS s noSet && (inB x (n:Int) && inB y 1)))/\Below w.heap.size w w':=by
 have H:=St.start Nope w
 have kg:=Zga
 cases hset:eqS s noSet with
 | false =>
  have kn:∀ w,(binOp .neq 24 (.agg #[.int .u64 s.a,.int .u64 s.b,.int .u64 s.c,.int .u64 s.d]) (.agg #[.int .u64 0,.int .u64 0,.int .u64 0,.int .u64 0])).run Tryz.prog w=.ok (.bool true) w:=fun w=>by have:=Zb9 s noSet w;rw [hset] at this;exact this
  go_enter Tryz.func164,Tryz.ntmps164
  go_wp2_with (first|((with_reducible refine Zar 228 ?_);refine ZcP (f:=⟨⟨#[106,117,109,112]⟩,false,1⟩) H rfl ?_;clear H;intro g3 w3 H q1 q2)|((with_reducible refine Zar 182 ?_);refine Zcu (i:=⟨4,s,x,y⟩) H rfl ?_;clear H;intro g4 w4 H q3 q4;have a0:=H.cell 1 0 rfl (v:=.string ⟨#[106,117,109,112]⟩) rfl;have a1:=H.cell 1 1 rfl (v:=.bool false) rfl;have a2:=H.cell 1 2 rfl (v:=.int .i64 1) rfl;have b1:=H.cell 0 1 rfl (v:=.int .u64 s.a) rfl;have b2:=H.cell 0 2 rfl (v:=.int .u64 s.b) rfl;have b3:=H.cell 0 3 rfl (v:=.int .u64 s.c) rfl;have b4:=H.cell 0 4 rfl (v:=.int .u64 s.d) rfl;have b5:=H.cell 0 5 rfl (v:=.int .i64 x) rfl;have b6:=H.cell 0 6 rfl (v:=.int .i64 y) rfl)|((with_reducible refine Zdp ?_);refine Zdq H (x:=x) (y:=y) rfl rfl ?_;clear H;intro g5 w5 H q5;clear a0 a1 a2 b1 b2 b3 b4 b5 b6;have a0:=H.cell 2 0 rfl (v:=.string ⟨#[106,117,109,112]⟩) rfl;have a1:=H.cell 2 1 rfl (v:=.bool false) rfl;have a2:=H.cell 2 2 rfl (v:=.int .i64 1) rfl;have b1:=H.cell 1 1 rfl (v:=.int .u64 s.a) rfl;have b2:=H.cell 1 2 rfl (v:=.int .u64 s.b) rfl;have b3:=H.cell 1 3 rfl (v:=.int .u64 s.c) rfl;have b4:=H.cell 1 4 rfl (v:=.int .u64 s.d) rfl;have b5:=H.cell 1 5 rfl (v:=.int .i64 x) rfl;have b6:=H.cell 1 6 rfl (v:=.int .i64 y) rfl;have d0:=H.cell 0 0 rfl (v:=.int .i64 x) rfl;have d1:=H.cell 0 1 rfl (v:=.int .i64 y) rfl))
  go_ret
  exact⟨rfl,H.below⟩
 | true =>
  have kn:∀ w,(binOp .neq 24 (.agg #[.int .u64 s.a,.int .u64 s.b,.int .u64 s.c,.int .u64 s.d]) (.agg #[.int .u64 0,.int .u64 0,.int .u64 0,.int .u64 0])).run Tryz.prog w=.ok (.bool false) w:=fun w=>by have:=Zb9 s noSet w;rw [hset] at this;exact this
  replace hset:=Zaa hset
  rw [Bool.true_and]
  generalize hres:(inB x (n:Int) && inB y 1)=res
  replace hres:=Zaa hres
  go_enter Tryz.func164,Tryz.ntmps164
  go_wp2_with (first|((with_reducible refine Zar 228 ?_);refine ZcP (f:=⟨⟨#[106,117,109,112]⟩,false,1⟩) H rfl ?_;clear H;intro g3 w3 H q1 q2)|((with_reducible refine Zar 182 ?_);refine Zcu (i:=⟨4,s,x,y⟩) H rfl ?_;clear H;intro g4 w4 H q3 q4;have a0:=H.cell 1 0 rfl (v:=.string ⟨#[106,117,109,112]⟩) rfl;have a1:=H.cell 1 1 rfl (v:=.bool false) rfl;have a2:=H.cell 1 2 rfl (v:=.int .i64 1) rfl;have b1:=H.cell 0 1 rfl (v:=.int .u64 s.a) rfl;have b2:=H.cell 0 2 rfl (v:=.int .u64 s.b) rfl;have b3:=H.cell 0 3 rfl (v:=.int .u64 s.c) rfl;have b4:=H.cell 0 4 rfl (v:=.int .u64 s.d) rfl;have b5:=H.cell 0 5 rfl (v:=.int .i64 x) rfl;have b6:=H.cell 0 6 rfl (v:=.int .i64 y) rfl)|((with_reducible refine Zdp ?_);refine Zdq H (x:=x) (y:=y) rfl rfl ?_;clear H;intro g5 w5 H q5;clear a0 a1 a2 b1 b2 b3 b4 b5 b6;have a0:=H.cell 2 0 rfl (v:=.string ⟨#[106,117,109,112]⟩) rfl;have a1:=H.cell 2 1 rfl (v:=.bool false) rfl;have a2:=H.cell 2 2 rfl (v:=.int .i64 1) rfl;have b1:=H.cell 1 1 rfl (v:=.int .u64 s.a) rfl;have b2:=H.cell 1 2 rfl (v:=.int .u64 s.b) rfl;have b3:=H.cell 1 3 rfl (v:=.int .u64 s.c) rfl;have b4:=H.cell 1 4 rfl (v:=.int .u64 s.d) rfl;have b5:=H.cell 1 5 rfl (v:=.int .i64 x) rfl;have b6:=H.cell 1 6 rfl (v:=.int .i64 y) rfl;have d0:=H.cell 0 0 rfl (v:=.int .i64 x) rfl;have d1:=H.cell 0 1 rfl (v:=.int .i64 y) rfl))
  have HB:=Zaa H.below
  replace H:=Zaa H
  go_loop [30] (fun iv=>∃ j:Nat,j<=2/\iv=.int .i64 (j:Int)/\Hid (1<=j->inB x (n:Int)=true)/\Hid (2<=j->inB y 1=true)) (fun iv=>2 - (intOf iv).toNat)
  case atStart=>exact⟨0,by omega,rfl,(fun h=>by omega),(fun h=>by omega)⟩
  case round =>
   obtain⟨j,hj,rfl,h1,h2⟩:=hrel
   rcases (show j=0\/j=1\/j=2 by omega) with rfl|rfl|rfl
   ·by_cases hx:x<0
    ·go_wp2
     go_ret
     exact⟨by rw [<- hres.out,ZcR hx];rfl,HB.out⟩
    ·by_cases hx2:x<(n:Int)
     ·have hx3:¬ ((n:Int)<=x):=by omega
      have hok:=Zaa (Zed hx hx2)
      go_wp2
      go_round
      case rel=>exact⟨1,by omega,by go_num,(fun _=>hok.out),(fun h=>by omega)⟩
      case measure=>simp [intOf]
     ·have hx3:(n:Int)<=x:=by omega
      have hno:=Zaa (Zec hx2)
      go_wp2
      go_ret
      exact⟨by rw [<- hres.out,hno.out];rfl,HB.out⟩
   ·by_cases hy:y<0
    ·go_wp2
     go_ret
     exact⟨by rw [<- hres.out,ZcR hy,Bool.and_false];rfl,HB.out⟩
    ·by_cases hy2:y<1
     ·have hy3:¬ (1<=y):=by omega
      have hok:=Zaa (Zed hy hy2)
      go_wp2
      go_round
      case rel=>exact⟨2,by omega,by go_num,(fun _=>h1.out (by omega)),(fun _=>hok.out)⟩
      case measure=>simp [intOf]
     ·have hy3:1<=y:=by omega
      have hno:=Zaa (Zec hy2)
      go_wp2
      go_ret
      exact⟨by rw [<- hres.out,hno.out,Bool.and_false];rfl,HB.out⟩
   ·go_wp2
    go_ret
    exact⟨by rw [<- hres.out,h1.out (by omega),h2.out (by omega)];rfl,HB.out⟩
set_option maxRecDepth 100000 in
theorem fitI_0 (i:Ins)(n:Nat)(w:World):Calls Tryz.prog 164 #[fmV ⟨⟨#[]⟩,false,0⟩,ZdB i,.int .i64 (n:Int)] w fun e w'=>e=.returned (.bool false)/\Below w.heap.size w w':=by
 have H:=St.start Nope w
 go_enter Tryz.func164,Tryz.ntmps164
 go_wp2_with (first|((with_reducible refine Zar 228 ?_);refine ZcP (f:=⟨⟨#[]⟩,false,0⟩) H rfl ?_;clear H;intro g3 w3 H q1 q2)|((with_reducible refine Zar 182 ?_);refine Zcu (i:=i) H rfl ?_;clear H;intro g4 w4 H q3 q4;have a0:=H.cell 1 0 rfl (v:=.string ⟨#[]⟩) rfl))
 go_ret
 exact⟨rfl,H.below⟩
theorem fitI_any (i:Ins)(n:Nat)(w:World):Calls Tryz.prog 164 #[fmV (fm i.op),ZdB i,.int .i64 (n:Int)] w fun e w'=>e=.returned (.bool (Zk8 i n))/\Below w.heap.size w w':=by
 obtain⟨op,s,x,y⟩:=i
 unfold Zk8
 simp only
 by_cases h1:op=1
 ·subst h1;simpa [fm,bnd,ZlY] using fitI_1 s x y n w
 ·by_cases h2:op=2
  ·subst h2;simpa [fm,bnd,Zha] using fitI_2 s x y n w
  ·by_cases h3:op=3
   ·subst h3;simpa [fm,bnd,nEnd] using fitI_3 s x y n w
   ·by_cases h4:op=4
    ·subst h4;simpa [fm,bnd,ZlZ] using fitI_4 s x y n w
    ·have e1:fm op=⟨⟨#[]⟩,false,0⟩:=by simp [fm,h1,h2,h3,h4]
     have e2:(op == 1 || (op == 2 || op == 3 || op == 4) && eqS s noSet)=false:=by simp [h1,h2,h3,h4]
     rw [e1,e2,Bool.false_and]
     exact fitI_0 ⟨op,s,x,y⟩ n w
end
end Go.Proofs.YtnffbmipllhjdaaGreatDoor
