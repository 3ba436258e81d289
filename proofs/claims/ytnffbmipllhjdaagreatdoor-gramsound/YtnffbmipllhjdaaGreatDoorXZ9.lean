/- GramSound, part 9. -/
import Derived.Test.YtnffbmipllhjdaaGreatDoorXZ8
import Derived.Laws.IdiomStrings
import Derived.Test.YtnffbmipllhjdaaGreatDoorXZ4
import Derived.Maps.OwnSet
import Derived.Test.YtnffbmipllhjdaaGreatDoorXZ2
import Derived.Test.YtnffbmipllhjdaaGreatDoorXZ3
set_option linter.all false
set_option maxHeartbeats 8000000
namespace Go.Proofs.YtnffbmipllhjdaaGreatDoor
namespace G
open Go.RowKit Go.Shelf
attribute [local go_sem] Oper.semAt_some
def RowT (X:Nat->Prop)(W:World)(va:Option Addr)(ts:List Tx):Prop:=∀ k s,ts[k]?=some s->∃ g,va=some ⟨g,0,none⟩/\∀ w',Kc X W w'->w'.cell? ⟨g,k,none⟩=some (.string ⟨s.toArray⟩)
theorem ZiV {X:Nat->Prop}{W:World}{base:Nat}{va:Option Addr}{vc:Nat}{ts:List Tx}(ho:W.ownsRow base 9 1 (.slice va ts.length vc) ts.length (ts.map encStr))(hX:∀ b,(Value.slice va ts.length vc).ownBlock=some b->¬ X b):RowT X W va ts:=fun k s hs=>by
 rcases ho.2 with⟨h1,h2⟩|⟨g,cap,cur,hv,hb,hg,h3⟩
 ·have:=(List.getElem?_eq_some_iff.1 hs).1
  omega
 ·cases hv
  refine⟨g,rfl,fun w' hk=>?_⟩
  have ho':w'.ownsRow base 9 1 (.slice (some ⟨g,0,none⟩) ts.length vc) ts.length (ts.map encStr):=⟨ho.1,.inr ⟨g,vc,cur,rfl,hb,hk.2 g _ _ _ (hX g rfl) hg,h3⟩⟩
  have:=ho'.cells (g:=g) rfl k (encStr s) (by rw [List.getElem?_map,hs];rfl)
  rw [Zav,Nat.zero_add] at this
  exact this
theorem RowT.kc {X Y:Nat->Prop}{W W':World}{va:Option Addr}{ts:List Tx}(h:RowT Y W va ts)(hk:Kc Y W W')(hXY:∀ k,X k->Y k):RowT X W' va ts:=fun k s hs=>by
 obtain⟨g,e,hc⟩:=h k s hs
 exact⟨g,e,fun w'' hk2=>hc w'' (hk.trans ⟨hk2.1,fun k cs t fr hn e=>hk2.2 k cs t fr (fun hx=>hn (hXY k hx)) e⟩)⟩
theorem str_app (s t:Tx):(⟨s.toArray⟩:ByteArray)++⟨t.toArray⟩=⟨(s++t).toArray⟩:=by
 apply ByteArray.ext
 simp [ByteArray.data_append]
theorem ZfG (a b:List Tx)(k:Nat)(s:Tx)(h:a[k]?=some s):Zbl (a.take (k+1)) b=Zbl (a.take k) b++b.map (fun y=>s++y):=by
 rw [List.take_add_one,h]
 simp [Zbl]
theorem Zm9 (a b:List Tx)(k:Nat):Zbl (a.take k) b <+: Zbl a b:=by
 refine⟨Zbl (a.drop k) b,?_⟩
 unfold Zbl
 rw [<- List.flatMap_append,List.take_append_drop]
theorem joinL_in {a b:List Tx}{k j:Nat}{s t:Tx}(h:a[k]?=some s)(ht:b[j]?=some t):Zbl (a.take k) b++(b.take j).map (fun y=>s++y)++[s++t] <+: Zbl a b:=by
 refine List.IsPrefix.trans ?_ (Zm9 a b (k+1))
 rw [ZfG a b k s h,List.append_assoc,List.prefix_append_right_inj]
 have:=(List.take_prefix (j+1) b).map (fun y=>s++y)
 rwa [List.take_add_one,ht,List.map_append] at this
theorem ZkN {a b:List Tx}{k j:Nat}{s t:Tx}(ht:b[j]?=some t):Zbl (a.take k) b++(b.take j).map (fun y=>s++y)++[s++t]=Zbl (a.take k) b++(b.take (j+1)).map (fun y=>s++y):=by
 rw [List.append_assoc,List.take_add_one,ht,List.map_append];rfl
set_option maxRecDepth 100000 in
theorem ZkO (X:Nat->Prop)(n:Nat)(hn:1<=n)(l Ba Bb:Nat)(va vb:Option Addr)(ca cb:Nat)(a b:List Tx)(hX1:¬ X Ba)(hX2:¬ X Bb)(J Jx:List Tx->World->Prop)
  (W:World) (hY:∀ pre x W1,J pre W1->pre++[x] <+: Zbl a b->W.heap.size+0<=W1.heap.size->YieldAt Fence.wide (n - 1) Tryz.prog l (encT x) W1 fun e W' =>
   KeepsFrom W.heap.size W1 W'/\((e=.returned (.bool true)/\J (pre++[x]) W'/\Kc X W1 W')\/(e=.returned (.bool false)/\Jx (pre++[x]) W')))
  (hA:RowT X W va a) (hB:RowT X W vb b) (hla:a.length<=1000000) (hlb:b.length<=1000000) (hsa:∀ s ∈ a,s.length<=1000000) (hsb:∀ s ∈ b,s.length<=1000000)
  (hBa:W.heap[Ba]?=some (.cells #[.slice va a.length ca] 43 (0,0))) (hBb:W.heap[Bb]?=some (.cells #[.slice vb b.length cb] 43 (0,0))) (h0:J [] W) :
  CallsIn Fence.wide n Tryz.prog 216 #[.func (.yield l) #[] #[],.pointer (some ⟨Ba,0,none⟩),.pointer (some ⟨Bb,0,none⟩)] W fun e W'=>(∃ v,e=.returned v)/\((∃ ys,ys=Zbl a b/\J ys W')\/(∃ pre,pre <+: Zbl a b/\Jx pre W')):=by
 have c0:W.cell? ⟨Ba,0,none⟩=some (.slice va a.length ca):=Zal hBa 0 rfl
 replace hY:=Zaa hY
 replace hA:=Zaa hA
 replace hB:=Zaa hB
 replace hBa:=Zaa hBa
 replace hBb:=Zaa hBb
 replace hsa:=Zaa hsa
 replace hsb:=Zaa hsb
 refine callsIn_of_wp Tryz.func216 rfl trivial ?_ rfl
 simp only [Tryz.ntmps216,List.size_toArray,List.length_cons,List.length_nil,Nat.reduceAdd,Nat.reduceSub,Array.replicate_succ,Array.replicate_zero,List.push_toArray,List.append_toArray,List.nil_append,List.cons_append]
 gi_wp2
 gi_loopw [10] (fun i wr=>∃ k:Nat,k<=a.length/\i=.int .i64 ((k:Nat):Int)/\Hid (J (Zbl (a.take k) b) wr)/\Hid (Kc X W wr)) (fun i _=>a.length - (RowKit.intOf i).toNat)
 case atStart=>exact⟨0,Nat.zero_le _,rfl,by show J _ _;simpa [Zbl] using h0,Kc.refl _ _⟩
 case round =>
  obtain⟨k,hk,rfl,hJs,hKs⟩:=hrel
  by_cases hlt:k<a.length
  ·have i1:(k:Int)<(a.length:Int):=by omega
   obtain⟨s,hs⟩:∃ s,a[k]?=some s:=⟨_,List.getElem?_eq_getElem hlt⟩
   obtain⟨g,hva,hcl⟩:=hA.out k s hs
   have hsl:=hsa.out s (List.mem_of_getElem? hs)
   subst hva
   have cc:=hcl wr hKs.out
   have cBb:=Zal (hKs.out.2 Bb _ _ _ hX2 hBb.out) 0 (v:=.slice vb b.length cb) rfl
   replace hs:=Zaa hs
   clear hcl
   gi_wp2
   gi_loopw [16] (fun i wj=>∃ j:Nat,j<=b.length/\i=.int .i64 ((j:Nat):Int)/\Hid (J (Zbl (a.take k) b++(b.take j).map (fun y=>s++y)) wj)/\Hid (Kc X W wj)) (fun i _=>b.length - (RowKit.intOf i).toNat)
   case atStart=>exact⟨0,Nat.zero_le _,rfl,by show J _ _;simpa using hJs.out,hKs⟩
   case round =>
    obtain⟨j,hj,rfl,hJ2,hK2⟩:=hrel
    by_cases hlj:j<b.length
    ·have i5:(j:Int)<(b.length:Int):=by omega
     obtain⟨t,ht⟩:∃ t,b[j]?=some t:=⟨_,List.getElem?_eq_getElem hlj⟩
     obtain⟨gx,hvb,hcl⟩:=hB.out j t ht
     have htl:=hsb.out t (List.mem_of_getElem? ht)
     subst hvb
     have ct:=hcl _ hK2.out
     have hpre:=Zaa (joinL_in hs.out ht)
     have htk:=Zaa (ZkN (a:=a) (k:=k) (s:=s) ht)
     obtain⟨fn,tmps,assign,body,hyy,hRR⟩:=hY.out _ (s++t) _ hJ2.out hpre.out (by have:=hK2.out.1;omega)
     simp only [encT,encStr] at hyy
     rw [<- str_app] at hyy
     replace ht:=Zaa ht
     clear hcl
     gi_wp2
     refine hRR.mono ?_
     rintro e W3 ⟨_,(⟨rfl,hJ3,hk3b⟩|⟨rfl,hJx3⟩)⟩
     ·have hJ3b:Hid (J (Zbl (a.take k) b++(b.take (j+1)).map (fun y=>s++y)) W3):=by
       show J _ _
       rw [<- htk.out];exact hJ3
      have hK3:=Zaa (hK2.out.trans hk3b)
      clear hk3b hJ3
      gi_wp2
      go_roundw
      case rel=>exact⟨j+1,by omega,by simp,hJ3b,hK3⟩
      case measure=>simp [RowKit.intOf];omega
     ·gi_wp2
      refine bodyPost_ret (results_none rfl _ _ _) rfl ?_
      exact⟨⟨_,rfl⟩,.inr ⟨_,hpre.out,hJx3⟩⟩
    ·obtain rfl:j=b.length:=by omega
     have i5:¬ ((b.length:Int)<(b.length:Int)):=by omega
     rw [show b.take b.length=b from List.take_of_length_le (Nat.le_refl _)] at hJ2
     have hJ4:Hid (J (Zbl (a.take (k+1)) b) wr):=by
      show J _ _
      rw [ZfG a b k s hs.out];exact hJ2.out
     gi_wp2
     go_roundw
     case rel=>exact⟨k+1,by omega,by simp,hJ4,hK2⟩
     case measure=>simp [RowKit.intOf];omega
  ·obtain rfl:k=a.length:=by omega
   have i1:¬ ((a.length:Int)<(a.length:Int)):=by omega
   rw [List.take_of_length_le (Nat.le_refl _)] at hJs
   gi_wp2
   go_end0
   exact⟨⟨_,rfl⟩,.inl hJs.out⟩
set_option maxRecDepth 100000 in
theorem ZkP (X:Nat->Prop)(n:Nat)(hn:1<=n)(l Ba:Nat)(va:Option Addr)(ca:Nat)(a:List Tx)(hX1:¬ X Ba)(J Jx:List Tx->World->Prop)
  (W:World) (hY:∀ pre x W1,J pre W1->pre++[x] <+: a->W.heap.size+0<=W1.heap.size->YieldAt Fence.wide (n - 1) Tryz.prog l (encT x) W1 fun e W' =>
   KeepsFrom W.heap.size W1 W'/\((e=.returned (.bool true)/\J (pre++[x]) W'/\Kc X W1 W')\/(e=.returned (.bool false)/\Jx (pre++[x]) W')))
  (hA:RowT X W va a) (hla:a.length<=1000000)
  (hBa:W.heap[Ba]?=some (.cells #[.slice va a.length ca] 43 (0,0))) (h0:J [] W) :
  CallsIn Fence.wide n Tryz.prog 219 #[.func (.yield l) #[] #[],.pointer (some ⟨Ba,0,none⟩)] W fun e W'=>(∃ v,e=.returned v)/\((∃ ys,ys=a/\J ys W')\/(∃ pre,pre <+: a/\Jx pre W')):=by
 have c0:W.cell? ⟨Ba,0,none⟩=some (.slice va a.length ca):=Zal hBa 0 rfl
 replace hY:=Zaa hY
 replace hA:=Zaa hA
 replace hBa:=Zaa hBa
 refine callsIn_of_wp Tryz.func219 rfl trivial ?_ rfl
 simp only [Tryz.ntmps219,List.size_toArray,List.length_cons,List.length_nil,Nat.reduceAdd,Nat.reduceSub,Array.replicate_succ,Array.replicate_zero,List.push_toArray,List.append_toArray,List.nil_append,List.cons_append]
 gi_wp2
 gi_loopw [7] (fun i wr=>∃ k:Nat,k<=a.length/\i=.int .i64 ((k:Nat):Int)/\Hid (J (a.take k) wr)/\Hid (Kc X W wr)) (fun i _=>a.length - (RowKit.intOf i).toNat)
 case atStart=>exact⟨0,Nat.zero_le _,rfl,by show J _ _;simpa using h0,Kc.refl _ _⟩
 case round =>
  obtain⟨k,hk,rfl,hJs,hKs⟩:=hrel
  by_cases hlt:k<a.length
  ·have i1:(k:Int)<(a.length:Int):=by omega
   obtain⟨s,hs⟩:∃ s,a[k]?=some s:=⟨_,List.getElem?_eq_getElem hlt⟩
   obtain⟨g,hva,hcl⟩:=hA.out k s hs
   subst hva
   have cc:=hcl wr hKs.out
   have htk:Hid (a.take k++[s]=a.take (k+1)):=by show _=_;rw [List.take_add_one,hs];rfl
   obtain⟨fn,tmps,assign,body,hyy,hRR⟩:=hY.out _ s _ hJs.out (by rw [htk.out];exact List.take_prefix _ _) (by have:=hKs.out.1;omega)
   simp only [encT,encStr] at hyy
   replace hs:=Zaa hs
   clear hcl
   gi_wp2
   refine hRR.mono ?_
   rintro e W3 ⟨_,(⟨rfl,hJ3,hk3b⟩|⟨rfl,hJx3⟩)⟩
   ·have hJ3b:Hid (J (a.take (k+1)) W3):=by
     show J _ _
     rw [<- htk.out];exact hJ3
    have hK3:=Zaa (hKs.out.trans hk3b)
    clear hk3b hJ3
    gi_wp2
    go_roundw
    case rel=>exact⟨k+1,by omega,by simp,hJ3b,hK3⟩
    case measure=>simp [RowKit.intOf];omega
   ·gi_wp2
    refine bodyPost_ret (results_none rfl _ _ _) rfl ?_
    exact⟨⟨_,rfl⟩,.inr ⟨_,(by rw [htk.out];exact List.take_prefix _ _),hJx3⟩⟩
  ·obtain rfl:k=a.length:=by omega
   have i1:¬ ((a.length:Int)<(a.length:Int)):=by omega
   rw [List.take_of_length_le (Nat.le_refl _)] at hJs
   gi_wp2
   go_end0
   exact⟨⟨_,rfl⟩,.inl hJs.out⟩
end G
namespace G
open Go.RowKit Go.Shelf
attribute [local go_sem] Oper.semAt_some
theorem ZhH (n:Nat)(va vb:Option Addr)(la ca lb cb:Nat)(w:World):CallsIn Fence.wide n Tryz.prog 183 #[.slice va la ca,.slice vb lb cb] w fun e w'=>e=.returned (.func (.func 216) #[] #[.pointer (some ⟨w.heap.size,0,none⟩),.pointer (some ⟨w.heap.size+1,0,none⟩)])/\w'=(w.alloc (.cells #[.slice va la ca] 43)).alloc (.cells #[.slice vb lb cb] 43):=by
 have hmf:∀ (fn:Fn) (first cap:Array Value) (w:World),(Instr.makeFunc fn first cap).run Tryz.prog w=.ok (.func fn first cap) w:=fun _ _ _ _=>rfl
 refine callsIn_of_wp Tryz.func183 rfl trivial ?_ rfl
 simp only [Tryz.ntmps183,List.size_toArray,List.length_cons,List.length_nil,Nat.reduceAdd,Nat.reduceSub,Array.replicate_succ,Array.replicate_zero,List.push_toArray,List.append_toArray,List.nil_append,List.cons_append]
 gi_wp2
 go_ret
 exact⟨by simp,rfl⟩
theorem Zna (n:Nat)(va:Option Addr)(la ca:Nat)(w:World):CallsIn Fence.wide n Tryz.prog 186 #[.slice va la ca] w fun e w'=>e=.returned (.func (.func 219) #[] #[.pointer (some ⟨w.heap.size,0,none⟩)])/\w'=w.alloc (.cells #[.slice va la ca] 43):=by
 have hmf:∀ (fn:Fn) (first cap:Array Value) (w:World),(Instr.makeFunc fn first cap).run Tryz.prog w=.ok (.func fn first cap) w:=fun _ _ _ _=>rfl
 refine callsIn_of_wp Tryz.func186 rfl trivial ?_ rfl
 simp only [Tryz.ntmps186,List.size_toArray,List.length_cons,List.length_nil,Nat.reduceAdd,Nat.reduceSub,Array.replicate_succ,Array.replicate_zero,List.push_toArray,List.append_toArray,List.nil_append,List.cons_append]
 gi_wp2
 go_ret
 exact⟨by simp,rfl⟩
def BndR (M:List Tx)(w:World)(e:Ending)(w':World):Prop:=∃ v b,e=.returned (.tuple #[v,.bool b])/\Below w.heap.size w w'/\((bnd M=none/\b=false/\v=nilS)\/∃ ts,bnd M=some ts/\b=true/\w'.ownsRow w.heap.size 9 1 v ts.length (ts.map encStr))
theorem ZbE {w:World}{base:Nat}{v:Value}{ts:List Tx}(h:w.ownsRow base 9 1 v ts.length (ts.map encStr)):∃ a c,v=.slice a ts.length c:=by
 rcases h.2 with⟨rfl,h0⟩|⟨g,cap,cur,rfl,_⟩
 ·exact⟨_,_,by rw [h0]⟩
 ·exact⟨_,_,rfl⟩
theorem Znb (a b:List Tx):(Zbl a b).length=a.length * b.length:=by
 induction a with
 | nil=>simp [Zbl]
 | cons x r ih =>
  have:Zbl (x::r) b=b.map (fun y=>x++y)++Zbl r b:=rfl
  rw [this,List.length_append,List.length_map,ih,List.length_cons,Nat.succ_mul,Nat.add_comm]
theorem Zdl (a b:List Tx)(va vb:Option Addr)(ca cb Ba Bb:Nat)(w:World)(hoa:w.ownsRow 0 9 1 (.slice va a.length ca) a.length (a.map encStr))(hob:w.ownsRow 0 9 1 (.slice vb b.length cb) b.length (b.map encStr))(hla:a.length<=32)(hlb:b.length<=32)(hsa:∀ s ∈ a,s.length<=32)(hsb:∀ s ∈ b,s.length<=32)
  (hBa:w.heap[Ba]?=some (.cells #[.slice va a.length ca] 43 (0,0))) (hBb:w.heap[Bb]?=some (.cells #[.slice vb b.length cb] 43 (0,0))) :
  Calls Tryz.prog 182 #[.func (.func 216) #[] #[.pointer (some ⟨Ba,0,none⟩),.pointer (some ⟨Bb,0,none⟩)]] w (BndR (Zbl a b) w):=by
 have hlen:(Zbl a b).length<=1024:=by
  rw [Znb]
  exact Nat.mul_le_mul hla hlb
 refine callsIn_wide.1 (ZfF 6 (Nat.le_refl _) 216 _ (Zbl a b) (fun x hx=>?_) (by omega) w (enters_of Tryz.func216 (by kernel_rfl) rfl) (fun X W n' hn' hW hX=>?_))
 ·obtain⟨s,hs,hx⟩:=List.mem_flatMap.1 hx
  obtain⟨t,ht,rfl⟩:=List.mem_map.1 hx
  have h1:=hsa s hs
  have h2:=hsb t ht
  rw [List.length_append]
  omega
 ·have hbl:∀ k,k<w.heap.size->¬ X k:=fun k hk h=>by have:=hX k h;omega
  have hkW:Kc X w W:=Kc.below hW (Nat.le_refl _)
  have rA:=(ZiV hoa (fun b hb=>hbl b (ZaN hoa hb).2)).kc hkW (fun _ h=>h)
  have rB:=(ZiV hob (fun b hb=>hbl b (ZaN hob hb).2)).kc hkW (fun _ h=>h)
  have lBa:=(Array.getElem?_eq_some_iff.1 hBa).1
  have lBb:=(Array.getElem?_eq_some_iff.1 hBb).1
  intro l J Jx V hV hJ _ hY h0
  have hkV:Kc X W V:=Kc.below hV (Nat.le_refl _)
  exact ZkO X n' hn' l Ba Bb va vb ca cb a b (hbl _ lBa) (hbl _ lBb) J Jx V hY (rA.kc hkV (fun _ h=>h)) (rB.kc hkV (fun _ h=>h)) (by omega) (by omega) (fun s hs=>by have:=hsa s hs;omega) (fun s hs=>by have:=hsb s hs;omega) ((hkW.trans hkV).2 _ _ _ _ (hbl _ lBa) hBa) ((hkW.trans hkV).2 _ _ _ _ (hbl _ lBb) hBb) h0
theorem Zfk (a:List Tx)(va:Option Addr)(ca Ba:Nat)(w:World)(hoa:w.ownsRow 0 9 1 (.slice va a.length ca) a.length (a.map encStr))(hla:a.length<=1000000)(hsa:∀ s ∈ a,s.length<=32)
  (hBa:w.heap[Ba]?=some (.cells #[.slice va a.length ca] 43 (0,0))) :
  Calls Tryz.prog 182 #[.func (.func 219) #[] #[.pointer (some ⟨Ba,0,none⟩)]] w (BndR a w):=by
 refine callsIn_wide.1 (ZfF 6 (Nat.le_refl _) 219 _ a (fun x hx=>by have:=hsa x hx;omega) hla w (enters_of Tryz.func219 (by kernel_rfl) rfl) (fun X W n' hn' hW hX=>?_))
 have hbl:∀ k,k<w.heap.size->¬ X k:=fun k hk h=>by have:=hX k h;omega
 have hkW:Kc X w W:=Kc.below hW (Nat.le_refl _)
 have rA:=(ZiV hoa (fun b hb=>hbl b (ZaN hoa hb).2)).kc hkW (fun _ h=>h)
 have lBa:=(Array.getElem?_eq_some_iff.1 hBa).1
 intro l J Jx V hV hJ _ hY h0
 have hkV:Kc X W V:=Kc.below hV (Nat.le_refl _)
 exact ZkP X n' hn' l Ba va ca a (hbl _ lBa) J Jx V hY (rA.kc hkV (fun _ h=>h)) hla ((hkW.trans hkV).2 _ _ _ _ (hbl _ lBa) hBa) h0
def PaL (w:World)(P:Nat->Prop):List Pt->List Value->Prop
 | [],xs=>xs=[]
 | p::r,xs=>∃ (b:Bool) (tv:Value) (o:Int) (t:Tx) (lv:Value) (ys:List Value),xs=(pA b tv o t lv).toList++ys/\PaV w P (pV b tv o t lv) p/\PaL w P r ys
theorem PaV.form {w:World}{P:Nat->Prop}{x:Value}{p:Pt}(h:PaV w P x p):∃ b tv o t lv,x=pV b tv o t lv/\tv.oneCell'=true/\lv.oneCell'=true:=by
 cases p with
 | told ts =>
  obtain⟨tv,e,o,_⟩:=h
  exact⟨_,_,_,_,_,e,Zeu o,rfl⟩
 | ask q =>
  obtain⟨lv,e,hq⟩:=h
  exact⟨_,_,_,_,_,e,rfl,hq.one⟩
theorem PaL.kept {w w':World}{P:Nat->Prop}(hb:∀ b,P b->b<w.heap.size->w'.heap[b]?=w.heap[b]?):∀ {l:List Pt}{xs:List Value},PaL w P l xs->PaL w' P l xs
 | [],_,h=>h
 | p::r,xs,⟨b,tv,o,t,lv,ys,e,h1,h2⟩=>⟨b,tv,o,t,lv,ys,e,h1.kept hb,PaL.kept hb h2⟩
theorem PaL.mono {w:World}{P P':Nat->Prop}(hp:∀ b,b<w.heap.size->P b->P' b):∀ {l:List Pt}{xs:List Value},PaL w P l xs->PaL w P' l xs
 | [],_,h=>h
 | p::r,xs,⟨b,tv,o,t,lv,ys,e,h1,h2⟩=>⟨b,tv,o,t,lv,ys,e,h1.mono hp,PaL.mono hp h2⟩
theorem PaL.nth {w:World}{P:Nat->Prop}:∀ {l:List Pt}{xs:List Value},PaL w P l xs->∀ (i:Nat)(p:Pt),l[i]?=some p->∃ b tv o t lv,(∀ j u,(pA b tv o t lv)[j]?=some u->xs[i * 5+j]?=some u)/\PaV w P (pV b tv o t lv) p
 | [],_,_,i,p,h=>by simp at h
 | p0::r,xs,⟨b,tv,o,t,lv,ys,e,h1,h2⟩,0,p,h=>by
   have hp:p0=p:=by simpa using h
   subst hp
   refine⟨b,tv,o,t,lv,fun j u hj=>?_,h1⟩
   rw [e,Nat.zero_mul,Nat.zero_add]
   have hj':j<5:=(Array.getElem?_eq_some_iff.1 hj).1
   rw [List.getElem?_append_left (by simp [pA];exact hj')]
   simpa using hj
 | p0::r,xs,⟨b,tv,o,t,lv,ys,e,h1,h2⟩,i+1,p,h=>by
   obtain⟨b',tv',o',t',lv',h3,h4⟩:=PaL.nth h2 i p (by simpa using h)
   refine⟨b',tv',o',t',lv',fun j u hj=>?_,h4⟩
   rw [e,List.getElem?_append_right (by simp [pA];omega)]
   have:=h3 j u hj
   simp only [pA,List.length_cons,List.length_nil]
   rw [show (i+1) * 5+j - (0+1+1+1+1+1)=i * 5+j by omega]
   exact this
theorem Zew {w:World}{P:Nat->Prop}{base:Nat}{l:List Pt}{va:Option Addr}{vc:Nat}{zs:List Value}(ho:w.ownsRow base 85 5 (.slice va l.length vc) l.length zs)(hk:PaL w P l zs)(k:Nat)(p:Pt)(hp:l[k]?=some p) :
  ∃ g b tv o t lv,va=some ⟨g,0,none⟩/\tv.oneCell'=true/\lv.oneCell'=true/\PaV w P (pV b tv o t lv) p/\∀ w',Below w.heap.size w w'->(loadVar 85 ⟨g,k * 5,none⟩).run Tryz.prog w'=.ok (pV b tv o t lv) w':=by
 obtain⟨b,tv,o,t,lv,hc,hv⟩:=PaL.nth hk k p hp
 rcases ho.2 with⟨h1,h2⟩|⟨g,cap',cur,e,_,hg,_⟩
 ·have:=(List.getElem?_eq_some_iff.1 hp).1
  omega
 ·cases e
  obtain⟨b2,tv2,o2,t2,lv2,e2,f1,f2⟩:=hv.form
  have e3:pA b tv o t lv=pA b2 tv2 o2 t2 lv2:=by simpa [pV] using e2
  have e4:tv=tv2/\lv=lv2:=by
   have h1:=congrArg (fun a=>a[1]?) e3
   have h2:=congrArg (fun a=>a[4]?) e3
   simp [pA] at h1 h2
   exact⟨h1,h2⟩
  refine⟨g,b,tv,o,t,lv,rfl,by rw [e4.1];exact f1,by rw [e4.2];exact f2,hv,fun w' hb=>Zm8 (fun j u hj=>?_)⟩
  have:=ho.cells (g:=g) rfl _ _ (hc j u hj)
  rw [Zav,Nat.zero_add] at this
  exact (hb.cell (p:=⟨g,k * 5+j,none⟩) (Array.getElem?_eq_some_iff.1 hg).1).trans this
end G
namespace G
open Go.RowKit Go.Shelf
attribute [local go_sem] Oper.semAt_some
theorem Znc (w:World):(Instr.buildSlice 43 1 #[(0,.string { data:=#[] })]).run Tryz.prog w=.ok (.slice (some ⟨w.heap.size,0,none⟩) 1 1) (w.alloc (.cells #[.string { data:=#[] }] 9)):=by kernel_rfl
section
variable {S:Nat->Prop}{w0 w w':World}{L:List Ent}{ops:Array Oper}{rest:List Oper}{a:Act}{Q:Exit->Act->World->Prop}{dst:Option Nat}{x y:Operand}{ty:TypeId}{pos:String}{after:Array Edge}
theorem Znd {ps:Array (Nat × Operand)}{m:Nat}(h:wpList Tryz.prog ops Q (⟨dst,.buildSlice 43 m ps,ty,pos,after,none⟩::rest) a w):wpList Tryz.prog ops Q (⟨dst,.buildSlice 43 m ps,ty,pos,after,none⟩::rest) a w:=h
theorem Zj1 (hx:a.eval x=.string { data:=#[] })(k:∀ w',Below w.heap.size w w'->w'.ownsRow w.heap.size 9 1 (.slice (some ⟨w.heap.size,0,none⟩) 1 1) 1 ([[]].map encStr)->wpList Tryz.prog ops Q rest (a.put dst (.slice (some ⟨w.heap.size,0,none⟩) 1 1)) w'):wpList Tryz.prog ops Q (⟨dst,.buildSlice 43 1 #[(0,x)],ty,pos,after,none⟩::rest) a w:=by
 refine wpList_plain rfl fun K hK=>?_
 unfold Oper.wp execOp
 simp only [List.map_toArray,List.map_cons,List.map_nil,hx,Sem.run_bind,Znc,Result.andThen_ok,Sem.run_pure]
 exact hK _ _ (k _ ((Below.refl _ w).alloc (Nat.le_refl _) _) ⟨rfl,.inr ⟨_,1,_,rfl,Nat.le_refl _,heap_alloc_new w _,Nat.le_refl _,by unfold maxLen;omega,rfl,rfl⟩⟩)
theorem ZbZ (i:Nat)(H:St S w0 w L){g:Nat}{b b':Bool}{tv tv':Value}{o o':Int}{t t':Tx}{l l':Value}(h:L[i]?=some (true,g,85,pA b tv o t l))(hx:a.eval x=.pointer (some ⟨g,0,none⟩))(hy:a.eval y=pV b' tv' o' t' l')(ht:tv'.oneCell'=true)(hl:l'.oneCell'=true)
  (k:∀ w',St S w0 w' (L.set i (true,g,85,pA b' tv' o' t' l'))->wpList Tryz.prog ops Q rest a w'):wpList Tryz.prog ops Q (⟨none,.store 85 x y,ty,pos,after,none⟩::rest) a w :=
 Zc2 i 85 H h hx hy sizeP rfl (Zj0 ht hl) k
end
theorem ZhI (ts:List Tx)(q:Qy)(r:List Pt):Zbr ts (.ask q::r)=(ts,0):=rfl
theorem Zd6 {ts p:List Tx}{r:List Pt}(h:bnd (Zbl ts p)=none):Zbr ts (.told p::r)=(ts,0):=by simp [Zbr,h]
theorem Zdc {ts p m:List Tx}{r:List Pt}(h:bnd (Zbl ts p)=some m):Zbr ts (.told p::r)=((Zbr m r).1,(Zbr m r).2+1):=by simp [Zbr,h]
theorem Zgv {α:Type}{l:List α}{k:Nat}{x:α}(h:l[k]?=some x):l.drop k=x::l.drop (k+1):=by
 have hl:=(List.getElem?_eq_some_iff.1 h).1
 rw [List.drop_eq_getElem_cons hl]
 rw [List.getElem?_eq_getElem hl] at h
 have e:l[k]=x:=by simpa using h
 rw [e]
theorem Zbk {w:World}{base base' n:Nat}{v:Value}{xs:List Value}(h:w.ownsRow base 9 1 v n xs)(hb:base'<=base):w.ownsRow base' 9 1 v n xs:=by
 refine⟨h.1,?_⟩
 rcases h.2 with h1|⟨g,cap,cur,rfl,h2,h3⟩
 ·exact .inl h1
 ·exact .inr ⟨g,cap,cur,rfl,by omega,h3⟩
set_option maxRecDepth 100000 in
theorem Ze2 (l:List Pt)(hB:∀ p ∈ l,PtB p)(P:Nat->Prop)(v:Value)(zs:List Value)(w:World)(ho:w.ownsRow 0 85 5 v l.length zs)(hk:PaL w P l zs)(hP:∀ b,P b->b<w.heap.size)(hlen:l.length<=1000000) :
  Calls Tryz.prog 130 #[v] w fun e w'=>∃ tv,e=.returned (.tuple #[tv,.int .i64 ((Zaw l).2:Int)])/\w'.ownsRow w.heap.size 9 1 tv (Zaw l).1.length ((Zaw l).1.map encStr)/\Below w.heap.size w w':=by
 obtain⟨va,vc,rfl⟩:∃ va vc,v=.slice va l.length vc:=by
  rcases ho.2 with⟨rfl,h⟩|⟨g,cap,cur,rfl,_⟩
  ·exact⟨_,_,by rw [h]⟩
  ·exact⟨_,_,rfl⟩
 have child:=Zaa (fun k p h=>Zew ho hk k p h)
 replace hB:=Zaa hB
 replace hP:=Zaa hP
 clear ho hk
 go_enter Tryz.func130,Tryz.ntmps130
 go_wp2_with (first|((with_reducible refine Znd ?_);refine Zj1 rfl ?_;intro w1 B1 o1))
 have B1h:=Zaa B1
 have o1h:=Zaa o1
 clear B1 o1
 go_loopw [4,12] (fun tv iv wr=>∃ (k:Nat) (ts:List Tx),k<=l.length/\iv=.int .i64 (k:Int)/\Hid (Bd ts)/\Hid (wr.ownsRow w.heap.size 9 1 tv ts.length (ts.map encStr))/\Hid (Below w.heap.size w wr)/\Hid (Zaw l=((Zbr ts (l.drop k)).1,(Zbr ts (l.drop k)).2+k))) (fun _ iv _=>l.length - (intOf iv).toNat)
 case atStart=>exact⟨0,[[]],Nat.zero_le _,rfl,Zmh,o1h.out,B1h.out,rfl⟩
 case round =>
  obtain⟨k,ts,hk,rfl,hbd,ho,hb,hlg⟩:=hrel
  by_cases hlt:k<l.length
  ·have i3:(k:Int)<(l.length:Int):=by omega
   obtain⟨p,hp⟩:∃ p,l[k]?=some p:=⟨_,List.getElem?_eq_getElem hlt⟩
   obtain⟨g,b,tv,o,t,lv,hva,hto,hlo,hpv,hld⟩:=child.out k p hp
   subst hva
   have hpB:=hB.out p (List.mem_of_getElem? hp)
   have hdr:=Zgv hp
   have hl1:=Zaa (hld wr hb.out)
   obtain⟨ta,tc,hta⟩:=ZbE ho.out
   have H:=St.start Nope wr
   replace hp:=Zaa hp
   clear hld
   cases p with
   | ask q =>
    obtain⟨lv',e,hq⟩:=hpv
    have hb0:b=false:=by
     have:=congrArg (fun v=>match v with|.agg a=>a[0]?|_=>none) e
     simpa [pV,pA] using this
    subst hb0
    have hfin:Hid (Zaw l=(ts,k)):=by show _=_;rw [hlg.out,hdr,ZhI];simp
    clear e hq hpB hdr
    go_wp2_with (first|((with_reducible refine Zac 85 ?_);refine Zau 85 rfl hl1.out ?_)|((with_reducible refine Zae 85 ?_);refine Za0 H ?_;clear H;intro g6 w6 H q1 q2)|((with_reducible refine Zab 85 ?_);refine ZbZ 0 (b':=false) (tv':=tv) (o':=o) (t':=t) (l':=lv) H rfl rfl rfl hto hlo ?_;clear H;intro w7 H)|((with_reducible refine Zac 4 ?_);refine Za3 0 0 H (v:=.bool false) rfl rfl rfl ?_))
    have hbH:=Zaa H.below
    have ho7:=Zaa (ZaA ho.out (fun k hk=>hbH.out.block k (ZaN ho.out hk).2))
    have hb7:=Zaa (hb.out.trans (hbH.out.mono hb.out.size))
    subst hta
    go_ret2
    refine⟨_,(by rw [hfin.out];rfl),?_,hb7.out⟩
    rw [hfin.out]
    exact ho7.out
   | told ps =>
    obtain⟨tv',e,hpo,hpp⟩:=hpv
    have hbt:b=true/\tv=tv':=by
     have h1:=congrArg (fun v=>match v with|.agg a=>a[0]?|_=>none) e
     have h2:=congrArg (fun v=>match v with|.agg a=>a[1]?|_=>none) e
     simp [pV,pA] at h1 h2
     exact⟨h1,h2⟩
    obtain⟨rfl,rfl⟩:=hbt
    obtain⟨pa,pc,hpa⟩:=ZbE hpo
    have hBp:=Zaa (hpB ps rfl)
    have hdrH:=Zaa hdr
    have hpoW:=Zaa (ZaA (w':=wr) hpo (fun k hk=>hb.out.block k (ZaN hpo hk).2))
    clear e hpp hpB hdr hpo
    subst hta hpa
    go_wp2_with (first|((with_reducible refine Zac 85 ?_);refine Zau 85 rfl hl1.out ?_)|((with_reducible refine Zae 85 ?_);refine Za0 H ?_;clear H;intro g6 w6 H q1 q2)|((with_reducible refine Zab 85 ?_);refine ZbZ 0 (b':=true) (tv':=.slice pa ps.length pc) (o':=o) (t':=t) (l':=lv) H rfl rfl rfl rfl hlo ?_;clear H;intro w7 H)|((with_reducible refine Zac 4 ?_);refine Za3 0 0 H (v:=.bool true) rfl rfl rfl ?_)|((with_reducible refine Zac 43 ?_);refine Zgt 0 1 H (v:=.slice pa ps.length pc) rfl rfl rfl ?_)|(go_at_call 183;refine (callsIn_wide.1 (ZhH 1 _ _ _ _ _ _ w7)).mono ?_))
    rintro e w9 ⟨rfl,e9⟩
    have hb7:=H.below
    have B9:Below w7.heap.size w7 w9:=by rw [e9];exact ((Below.refl _ w7).alloc (Nat.le_refl _) _).alloc (by simp) _
    have hBa:w9.heap[w7.heap.size]?=some (.cells #[.slice ta ts.length tc] 43 (0,0)):=by rw [e9];exact (Below.heap_alloc _ _ _ (by simp)).trans (heap_alloc_new w7 _)
    have hBb:w9.heap[w7.heap.size+1]?=some (.cells #[.slice pa ps.length pc] 43 (0,0)):=by
     rw [e9]
     have:=heap_alloc_new (w7.alloc (.cells #[.slice ta ts.length tc] 43)) (.cells #[.slice pa ps.length pc] 43)
     simpa using this
    have b9:Below wr.heap.size wr w9:=hb7.trans (B9.mono hb7.size)
    have ot:=ZaA (w':=w9) ho.out (fun k hk=>b9.block k (ZaN ho.out hk).2)
    have op:=ZaA (w':=w9) hpoW.out (fun k hk=>b9.block k (ZaN hpoW.out hk).2)
    have BJ:=Zaa (Zdl ts ps ta pa tc pc w7.heap.size (w7.heap.size+1) w9 (Zbk ot (Nat.zero_le _)) op hbd.out.1 hBp.out.1 hbd.out.2.1 hBp.out.2.1 hBa hBb)
    have otH:=Zaa ot
    have b09:=Zaa (hb.out.trans (b9.mono hb.out.size))
    clear e9 H hb7 B9 hBa hBb ot op b9
    go_wp2_with (go_at_call 182;refine BJ.out.mono ?_)
    intro e w10 hR
    obtain⟨v10,b10,rfl,B10,hcase⟩:=hR
    have b010:=Zaa (b09.out.trans (B10.mono b09.out.size))
    rcases hcase with⟨hn,rfl,rfl⟩|⟨m,hm,rfl,om⟩
    ·have hfin:Hid (Zaw l=(ts,k)):=by show _=_;rw [hlg.out,hdrH.out,Zd6 hn];simp
     have ot10:=Zaa (ZaA (w':=w10) otH.out (fun k hk=>B10.block k (ZaN otH.out hk).2))
     clear hn B10
     go_wp2
     go_ret2
     refine⟨_,(by rw [hfin.out];rfl),?_,b010.out⟩
     rw [hfin.out]
     exact ot10.out
    ·have hlg2:Hid (Zaw l=((Zbr m (l.drop (k+1))).1,(Zbr m (l.drop (k+1))).2+(k+1))):=by
      show _=_
      rw [hlg.out,hdrH.out,Zdc hm]
      simp only [Prod.mk.injEq,true_and]
      omega
     have hbdm:=Zaa (ZjE hm)
     have om2:=Zaa (Zbk om (base':=w.heap.size) (by have:=b09.out.size;omega))
     clear hm B10 om
     go_wp2
     go_roundw
     case rel=>exact⟨k+1,m,by omega,by simp,hbdm,om2,b010,hlg2⟩
     case measure=>simp [intOf];omega
  ·obtain rfl:k=l.length:=by omega
   have i4:¬ ((l.length:Int)<(l.length:Int)):=by omega
   have hfin:Hid (Zaw l=(ts,l.length)):=by show _=_;rw [hlg.out,List.drop_length];simp [Zbr]
   go_wp2
   go_ret2
   refine⟨_,(by rw [hfin.out];rfl),?_,hb.out⟩
   rw [hfin.out]
   exact ho.out
end G
namespace G
open Go.RowKit Go.Shelf
attribute [local go_sem] Oper.semAt_some
section
variable {w w':World}{ops:Array Oper}{rest:List Oper}{a:Act}{Q:Exit->Act->World->Prop}{s x:Operand}{ty:TypeId}{pos:String}{after:Array Edge}
theorem Zne {d:Nat}(h:wpList Tryz.prog ops Q (⟨some d,.call { callee:=.builtin .append,args:=#[s,x],argTypes:=#[43,43] },ty,pos,after,none⟩::rest) a w):wpList Tryz.prog ops Q (⟨some d,.call { callee:=.builtin .append,args:=#[s,x],argTypes:=#[43,43] },ty,pos,after,none⟩::rest) a w:=h
theorem Znf {d base:Nat}{v u:Value}{ts ps:List Tx}(hs:a.eval s=v)(hx:a.eval x=u)(O:w.ownsRow base 9 1 v ts.length (ts.map encStr))(U:w.ownsRow 0 9 1 u ps.length (ps.map encStr))(hn:ts.length+ps.length<=1000000)(hb:base<=w.heap.size)
  (k:∀ v' w',w'.ownsRow base 9 1 v' (ts++ps).length ((ts++ps).map encStr)->Below base w w'->wpList Tryz.prog ops Q rest (a.put (some d) v') w') :
  wpList Tryz.prog ops Q (⟨some d,.call { callee:=.builtin .append,args:=#[s,x],argTypes:=#[43,43] },ty,pos,after,none⟩::rest) a w:=by
 obtain⟨i,hi,hz,hsz,hby⟩:=info_parts infoS9
 rcases U.2 with⟨rfl,h0⟩|⟨g,cap,cur,rfl,_⟩
 ·obtain rfl:ps=[]:=List.eq_nil_of_length_eq_zero h0
  refine wpList_append_own_none rfl s x 43 rfl base 9 i 1 Tryz.underlying43 hi v ts.length _ hs O hx ?_
  exact k _ _ (by simpa using O) (Below.refl _ _)
 ·refine wpList_append_own _ rfl s x 43 rfl base 9 i (.string ByteArray.empty) 1 16 Tryz.underlying43 hi hz hsz hby rfl (by decide) v ts.length _ hs O ⟨g,0,none⟩ ps.length cap (ps.map encStr) hx (by simp) (fun j u hj=>U.cells (g:=g) rfl j u hj) (fun u hu=>by obtain⟨x,_,rfl⟩:=List.mem_map.1 hu;rfl) (by unfold maxLen;omega) (by omega) hb ?_
  intro v' w' h1 h2 _
  refine k v' w' (by rw [List.length_append,List.map_append];exact h1) ((Below.refl base w).grown h2 hb (fun k e=>(ZaN O e).1))
end
theorem Zdu:∀ (l r:List Pt),Zbb (l++r)=(Zbb l).bind (fun a=>(Zbb r).map (fun b=>a++b))
 | [],r=>by cases h:Zbb r <;> simp [Zbb,h]
 | .ask q::l,r=>rfl
 | .told p::l,r=>by
  show (Zbb (l++r)).map _=_
  rw [Zdu l r]
  cases h:Zbb l <;> cases h2:Zbb r <;> simp [Zbb,h,h2]
set_option maxRecDepth 100000 in
theorem ZkQ (l:List Pt)(hB:∀ p ∈ l,PtB p)(P:Nat->Prop)(v:Value)(zs:List Value)(w:World)(ho:w.ownsRow 0 85 5 v l.length zs)(hk:PaL w P l zs)(hP:∀ b,P b->b<w.heap.size)(hlen:l.length<=10000) :
  Calls Tryz.prog 132 #[v] w fun e w'=>Below w.heap.size w w'/\(((Zbb l).bind bnd=none/\e=.returned (.tuple #[nilS,.bool false]))\/∃ ts tv,(Zbb l).bind bnd=some ts/\e=.returned (.tuple #[tv,.bool true])/\w'.ownsRow w.heap.size 9 1 tv ts.length (ts.map encStr)):=by
 obtain⟨va,vc,rfl⟩:∃ va vc,v=.slice va l.length vc:=by
  rcases ho.2 with⟨rfl,h⟩|⟨g,cap,cur,rfl,_⟩
  ·exact⟨_,_,by rw [h]⟩
  ·exact⟨_,_,rfl⟩
 have child:=Zaa (fun k p h=>Zew ho hk k p h)
 replace hB:=Zaa hB
 replace hP:=Zaa hP
 clear ho hk
 go_enter Tryz.func132,Tryz.ntmps132
 go_wp2
 go_loopw [4,9] (fun tv iv wr=>∃ (k:Nat) (ts:List Tx),k<=l.length/\iv=.int .i64 (k:Int)/\Hid (Zbb (l.take k)=some ts)/\Hid (ts.length<=32 * k/\∀ s ∈ ts,s.length<=32)/\Hid (wr.ownsRow w.heap.size 9 1 tv ts.length (ts.map encStr))/\Hid (Below w.heap.size w wr)) (fun _ iv _=>l.length - (intOf iv).toNat)
 case atStart=>exact⟨0,[],Nat.zero_le _,rfl,rfl,⟨Nat.le_refl _,fun s hs=>(List.not_mem_nil hs).elim⟩,⟨rfl,.inl ⟨rfl,rfl⟩⟩,Below.refl _ _⟩
 case round =>
  obtain⟨k,ts,hk,rfl,hun,hbd,ho,hb⟩:=hrel
  by_cases hlt:k<l.length
  ·have i3:(k:Int)<(l.length:Int):=by omega
   obtain⟨p,hp⟩:∃ p,l[k]?=some p:=⟨_,List.getElem?_eq_getElem hlt⟩
   obtain⟨g,b,tv,o,t,lv,hva,hto,hlo,hpv,hld⟩:=child.out k p hp
   subst hva
   have hpB:=hB.out p (List.mem_of_getElem? hp)
   have htk:l.take (k+1)=l.take k++[p]:=by rw [List.take_add_one,hp];rfl
   have hl1:=Zaa (hld wr hb.out)
   obtain⟨ta,tc,hta⟩:=ZbE ho.out
   have H:=St.start Nope wr
   replace hp:=Zaa hp
   clear hld
   cases p with
   | ask q =>
    obtain⟨lv',e,hq⟩:=hpv
    have hb0:b=false:=by
     have:=congrArg (fun v=>match v with|.agg a=>a[0]?|_=>none) e
     simpa [pV,pA] using this
    subst hb0
    have hfin:Hid ((Zbb l).bind bnd=none):=by
     show _=_
     have e2:l=l.take k++.ask q::l.drop (k+1):=by
      have:=Zgv hp.out
      rw [<- this,List.take_append_drop]
     rw [e2,Zdu]
     simp [Zbb]
    subst hta
    clear e hq hpB htk
    go_wp2_with (first|((with_reducible refine Zac 85 ?_);refine Zau 85 rfl hl1.out ?_)|((with_reducible refine Zae 85 ?_);refine Za0 H ?_;clear H;intro g6 w6 H q1 q2)|((with_reducible refine Zab 85 ?_);refine ZbZ 0 (b':=false) (tv':=tv) (o':=o) (t':=t) (l':=lv) H rfl rfl rfl hto hlo ?_;clear H;intro w7 H)|((with_reducible refine Zac 4 ?_);refine Za3 0 0 H (v:=.bool false) rfl rfl rfl ?_))
    have hb7:=Zaa (hb.out.trans (H.below.mono hb.out.size))
    go_ret2
    exact⟨hb7.out,.inl ⟨hfin.out,rfl⟩⟩
   | told ps =>
    obtain⟨tv',e,hpo,hpp⟩:=hpv
    have hbt:b=true/\tv=tv':=by
     have h1:=congrArg (fun v=>match v with|.agg a=>a[0]?|_=>none) e
     have h2:=congrArg (fun v=>match v with|.agg a=>a[1]?|_=>none) e
     simp [pV,pA] at h1 h2
     exact⟨h1,h2⟩
    obtain⟨rfl,rfl⟩:=hbt
    subst hta
    have hBp:=Zaa (hpB ps rfl)
    have hpoW:=Zaa (ZaA (w':=wr) hpo (fun k hk=>hb.out.block k (ZaN hpo hk).2))
    have hun2:Hid (Zbb (l.take (k+1))=some (ts++ps)):=by
     show _=_
     rw [htk,Zdu,hun.out]
     simp [Zbb]
    have hbd2:Hid ((ts++ps).length<=32 * (k+1)/\∀ s ∈ ts++ps,s.length<=32):=by
     refine⟨by rw [List.length_append];have h1:=hbd.out.1;have h2:=hBp.out.1;omega,fun s hs=>?_⟩
     rcases List.mem_append.1 hs with hs|hs
     ·exact hbd.out.2 s hs
     ·exact hBp.out.2.1 s hs
    have hnn:ts.length+ps.length<=1000000:=by have h1:=hbd.out.1;have h2:=hBp.out.1;omega
    clear e hpp hpB hpo htk
    go_wp2_with (first|((with_reducible refine Zac 85 ?_);refine Zau 85 rfl hl1.out ?_)|((with_reducible refine Zae 85 ?_);refine Za0 H ?_;clear H;intro g6 w6 H q1 q2)|((with_reducible refine Zab 85 ?_);refine ZbZ 0 (b':=true) (tv':=tv) (o':=o) (t':=t) (l':=lv) H rfl rfl rfl hto hlo ?_;clear H;intro w7 H;(have hb7:=H.below);(have o7:=Zaa (ZaA ho.out (fun k hk=>hb7.block k (ZaN ho.out hk).2)));(have p7:=Zaa (ZaA hpoW.out (fun k hk=>hb7.block k (ZaN hpoW.out hk).2)));(have b7:=Zaa (hb.out.trans (hb7.mono hb.out.size))))|((with_reducible refine Zac 4 ?_);refine Za3 0 0 H (v:=.bool true) rfl rfl rfl ?_)|((with_reducible refine Zac 43 ?_);refine Zgt 0 1 H (v:=tv) rfl rfl rfl ?_)|((with_reducible refine Zne ?_);refine Znf rfl rfl o7.out p7.out hnn b7.out.size ?_;intro v8 w8 o8 B8;replace o8:=Zaa o8;replace B8:=Zaa B8))
    have b8:=Zaa (b7.out.trans B8.out)
    go_wp2
    go_roundw
    case rel=>exact⟨k+1,ts++ps,by omega,by simp,hun2,hbd2,o8,b8⟩
    case measure=>simp [intOf];omega
  ·obtain rfl:k=l.length:=by omega
   have i4:¬ ((l.length:Int)<(l.length:Int)):=by omega
   rw [List.take_of_length_le (Nat.le_refl _)] at hun
   obtain⟨ta,tc,hta⟩:=ZbE ho.out
   subst hta
   have hlen3:ts.length<=1000000:=by have h1:=hbd.out.1;omega
   obtain⟨w9,e9⟩:∃ w9,w9=wr.alloc (.cells #[.slice ta ts.length tc] 43):=⟨_,rfl⟩
   have B9:Below wr.heap.size wr w9:=by rw [e9];exact (Below.refl _ wr).alloc (Nat.le_refl _) _
   have hBa:w9.heap[wr.heap.size]?=some (.cells #[.slice ta ts.length tc] 43 (0,0)):=by rw [e9];exact heap_alloc_new wr _
   have ot:=ZaA (w':=w9) ho.out (fun k hk=>B9.block k (ZaN ho.out hk).2)
   have BV:=Zaa (Zfk ts ta tc wr.heap.size w9 (Zbk ot (Nat.zero_le _)) hlen3 hbd.out.2 hBa)
   have b9:=Zaa (hb.out.trans (B9.mono hb.out.size))
   have s9:=Zaa b9.out.size
   clear B9 hBa ot
   rw [e9] at BV b9 s9
   clear e9
   go_wp2_with (first|(go_at_call 186;refine (callsIn_wide.1 (Zna 1 _ _ _ wr)).mono ?_)|(go_at_call 182;refine BV.out.mono ?_))
   intro e w10 hR
   obtain⟨v10,b10,rfl,B10,hcase⟩:=hR
   have b10h:=Zaa (b9.out.trans (B10.mono b9.out.size))
   have hcs:=Zaa hcase
   clear B10 hcase
   go_wp2
   go_ret2
   refine⟨b10h.out,?_⟩
   rcases hcs.out with⟨hn,rfl,rfl⟩|⟨m,hm,rfl,om⟩
   ·exact .inl ⟨by rw [hun.out];exact hn,rfl⟩
   ·exact .inr ⟨m,v10,by rw [hun.out];exact hm,rfl,Zbk om s9.out⟩
end G
namespace G
open Go.RowKit Go.Shelf
def RqP (w:World)(base:Nat)(P:Nat->Prop)(v:Value)(f:Qf):Prop:=∃ xs,w.ownsRow base 30 3 v f.len xs/\Kq w (fun b=>(P b\/base<=b)/\v.ownBlock≠some b) f xs
theorem RqP.start (w:World)(base:Nat)(P:Nat->Prop):RqP w base P (.slice none 0 0) .nil:=⟨[],⟨rfl,.inl ⟨rfl,rfl⟩⟩,rfl⟩
theorem RqP.kept {w w':World}{base:Nat}{P:Nat->Prop}{v:Value}{f:Qf}(h:RqP w base P v f)(hb:∀ b,(P b\/base<=b)->b<w.heap.size->w'.heap[b]?=w.heap[b]?):RqP w' base P v f:=by
 obtain⟨xs,o,k⟩:=h
 exact⟨xs,ZaC o (fun b hk=>hb b (.inr (Zaz o hk).1) (Zaz o hk).2),k.kept (fun b hP hl=>hb b hP.1 hl)⟩
theorem RqP.lt {w:World}{base:Nat}{P:Nat->Prop}{v:Value}{f:Qf}(h:RqP w base P v f){k:Nat}(hk:v.ownBlock=some k):base<=k/\k<w.heap.size:=by
 obtain⟨xs,o,_⟩:=h
 exact Zaz o hk
section
variable {S:Nat->Prop}{w0 w w':World}{L:List Ent}{ops:Array Oper}{rest:List Oper}{a:Act}{Q:Exit->Act->World->Prop}{x y:Operand}{ty ty2:TypeId}{pos pos2:String}{after after2:Array Edge}
theorem at_snocP {d1 d2:Nat}{s x:Operand}(h:wpList Tryz.prog ops Q (⟨some d1,.buildSlice 28 1 #[(0,x)],ty,pos,after,none⟩::⟨some d2,.call { callee:=.builtin .append,args:=#[s,.tmp d1],argTypes:=#[28,28] },ty2,pos2,after2,none⟩::rest) a w) :
  wpList Tryz.prog ops Q (⟨some d1,.buildSlice 28 1 #[(0,x)],ty,pos,after,none⟩::⟨some d2,.call { callee:=.builtin .append,args:=#[s,.tmp d1],argTypes:=#[28,28] },ty2,pos2,after2,none⟩::rest) a w:=h
theorem wl_snocP {d1 d2:Nat}{s:Operand}(H:St S w0 w L){base m:Nat}{P:Nat->Prop}(hPb:∀ b,P b->b<base){v z:Value}{f:Qf}{t:Qy}(R:RqP w base P v f)(T:QyV w (fun b=>P b\/m<=b) z t)(hs:∀ u,(a.put (some d1) u).eval s=v)(ht:∀ u,(a.put (some d1) u).eval (.tmp d1)=u)(hx:a.eval x=z)
  (hm:∀ k,v.ownBlock=some k->k<m) (hbm:base<=m) (hmw:m<=w.heap.size) (hf:f.len<=1000000) (hL:∀ e ∈ L,e.2.1<base) (h0:w0.heap.size<=base)
  (k:∀ u v2 w2,St S w0 w2 L->RqP w2 base P v2 (f.snoc t)->w.heap.size<=w2.heap.size->wpList Tryz.prog ops Q rest ((a.put (some d1) u).put (some d2) v2) w2) :
  wpList Tryz.prog ops Q (⟨some d1,.buildSlice 28 1 #[(0,x)],ty,pos,after,none⟩::⟨some d2,.call { callee:=.builtin .append,args:=#[s,.tmp d1],argTypes:=#[28,28] },ty2,pos2,after2,none⟩::rest) a w:=by
 obtain⟨i0,hi,hz0,hz1,hz2⟩:=ZiS
 obtain⟨u,zs,rfl,o,p,kd⟩:=T
 obtain⟨xs,ro,rk⟩:=R
 obtain⟨ua,uc,hu,_,_⟩:=Za8 o
 have hu1:u.oneCell'=true:=by rw [hu];rfl
 refine wpList_plain rfl fun K hK=>?_
 unfold Oper.wp execOp
 simp only [List.map_toArray,List.map_cons,List.map_nil,hx,Sem.run_bind,ZdK,Result.andThen_ok,Sem.run_pure]
 refine hK _ _ ?_
 generalize hA:qA t.op t.tx u=A at *
 have hAl:A.toList.length=3:=by rw [<- hA];rfl
 have hold:∀ b,b<w.heap.size->(w.alloc (.cells A 30)).heap[b]?=w.heap[b]?:=fun b hb=>Below.heap_alloc _ _ _ hb
 refine wpList_append_lies (P:=Tryz.prog) (w:=w.alloc (.cells A 30)) rfl s (.tmp d1) 28 rfl base 30 i0 (qV 0 [] (.slice none 0 0)) 3 48 Tryz.underlying28 hi hz0 hz1 hz2 rfl (by decide) v f.len xs (hs _) (ZaC ro (fun b hb=>hold b (Zaz ro hb).2)) ⟨w.heap.size,0,none⟩ 1 1 A.toList (ht _) (by omega) ?_ (by rw [<- hA];exact fun u hu=>Array.all_eq_true'.1 (ZeY hu1) u (by simpa using hu)) (by omega) (by unfold maxLen;omega) (by omega) (by simp;omega) (w.heap.size+1) (by simp) ?_
 ·intro j v' hj
  rw [Zav,Nat.zero_add,cell_of_row _ _ _ _ _ _ (heap_alloc_new w _)]
  simpa using hj
 ·intro g cap w2 hown hg hat hlt
  have H1:=(H.alloc 30 A).tail
  have hsz:w.heap.size<=w2.heap.size:=by have:=hg.size;simp at this;omega
  refine k _ _ w2 (H1.grown hg (fun j hj=>⟨fun e he=>?_,fun hl=>?_⟩)) ⟨xs++A.toList,by rw [Qf.len_snoc];exact hown,?_⟩ hsz
  ·have:=hL e he
   have:=Zaz ro hj
   omega
  ·have:=Zaz ro hj
   omega
  ·have keep:∀ b,b<w.heap.size->v.ownBlock≠some b->w2.heap[b]?=w.heap[b]?:=fun b hb hn=>by
    rw [hg.block b (by simp;omega) (fun e=>hn e.symm),hold b hb]
   have ne:∀ b,b<w.heap.size->v.ownBlock≠some b->(Value.slice (some ⟨g,0,none⟩) (f.len+1) cap).ownBlock≠some b:=fun b hb hn e=>by
    have e2:g=b:=by simpa [Value.ownBlock] using e
    rcases hat with h|h
    ·exact hn (by rw [h,e2])
    ·omega
   have far:∀ b,(P b\/m<=b)->v.ownBlock≠some b:=fun b hb e=>by
    have h1:=(Zaz ro e).1
    have h2:=hm b e
    rcases hb with h|h
    ·have:=hPb b h;omega
    ·omega
   have step:∀ {ff:Qf} {ys:List Value} {PP:Nat->Prop},Kq w PP ff ys->(∀ b,PP b->(P b\/base<=b)/\v.ownBlock≠some b)->Kq w2 (fun b=>(P b\/base<=b)/\(Value.slice (some ⟨g,0,none⟩) (f.len+1) cap).ownBlock≠some b) ff ys:=fun hk hP =>
    ((hk.mono (P':=fun b=>((P b\/base<=b)/\(Value.slice (some ⟨g,0,none⟩) (f.len+1) cap).ownBlock≠some b)/\v.ownBlock≠some b) (fun b hb hp=>⟨⟨(hP b hp).1,ne b hb (hP b hp).2⟩,(hP b hp).2⟩)).kept (w':=w2) (fun b hp hl=>keep b hl hp.2)).mono (fun b _ hp=>hp.1)
   have o2:=ZaC (w':=w2) o (fun b hb=>keep b (Zaz o hb).2 (far b (p b hb)))
   rw [<- hA]
   refine Kq.snoc o2 (fun b hb=>⟨(p b hb).imp id (fun h=>by omega),ne b (Zaz o hb).2 (far b (p b hb))⟩) (step kd (fun b hb=>⟨hb.imp id (fun h=>by omega),far b hb⟩)) (step rk (fun b hb=>hb))
end
theorem RqP.row {w:World}{base:Nat}{P:Nat->Prop}{v:Value}{l:List Qy}(h:RqP w base P v (fq l)):∃ zs,w.ownsRow base 30 3 v l.length zs/\Kq w (fun b=>P b\/base<=b) (fq l) zs/\(∀ k,v.ownBlock=some k->P k\/base<=k):=by
 obtain⟨xs,h1,h2⟩:=h
 rw [ZcG] at h1
 exact⟨xs,h1,h2.mono (fun b _ hb=>hb.1),fun k hk=>.inr (Zaz h1 hk).1⟩
theorem RqP.top {w:World}{base:Nat}{P:Nat->Prop}{v:Value}{f:Qf}(h:RqP w base P v f):∀ k,v.ownBlock=some k->k<w.heap.size:=fun k hk=>(h.lt hk).2
end G
namespace G
open Go.RowKit Go.Shelf
attribute [local go_sem] Oper.semAt_some
theorem Ze3 {w w':World}{base n:Nat}{v:Value}{xs:List Value}(h:w.ownsRow base 85 5 v n xs)(hb:Below w.heap.size w w'):w'.ownsRow base 85 5 v n xs:=by
 refine⟨h.1,?_⟩
 rcases h.2 with h1|⟨g,cap,cur,rfl,h2,h3,h4⟩
 ·exact .inl h1
 ·exact .inr ⟨g,cap,cur,rfl,h2,(hb.block g (Array.getElem?_eq_some_iff.1 h3).1).trans h3,h4⟩
theorem ZdO {w w4:World}{g2:Nat}{P:Nat->Prop}{p:Pt}{b:Bool}{tv:Value}{o:Int}{t:Tx}{lv:Value}(h4:w4.heap[g2]?=some (.cells (pA false nilS 0 [] nilS) 85 (0,0)))(hb:Below w.heap.size w w4)(hg:w.heap.size<=g2)(hq:PaV w4 P (pV b tv o t lv) p)(hP:¬ P g2) :
  PaV (w4.setRow g2 (pA b tv o t lv)) P (pV b tv o t lv) p/\Below w.heap.size w (w4.setRow g2 (pA b tv o t lv)) :=
 ⟨PaV.kept hq (fun b hb _=>setRow_other _ _ _ _ (fun e=>hP (e ▸ hb))),hb.trans ⟨rfl,rfl,rfl,by simp,fun k hk=>setRow_other _ _ _ _ (by omega)⟩⟩
set_option maxRecDepth 100000 in
theorem Zng (l:List Pt)(hB:∀ p ∈ l,PtB p)(hok:∀ p ∈ l,p.asked.ok)(hsz:((l.map Pt.asked).map Qy.sz).sum<=100000)(hln:l.length<=9000)(P:Nat->Prop)(v:Value)(zs:List Value)(w:World)(ho:w.ownsRow 0 85 5 v l.length zs)(hk:PaL w P l zs)(hP:∀ b,P b->b<w.heap.size) :
  Calls Tryz.prog 78 #[v] w fun e w'=>∃ x,e=.returned x/\PaV w' (fun b=>P b\/w.heap.size<=b) x (Zdg l)/\Below w.heap.size w w':=by
 obtain⟨va,vc,rfl⟩:∃ va vc,v=.slice va l.length vc:=by
  rcases ho.2 with⟨rfl,h⟩|⟨g,cap,cur,rfl,_⟩
  ·exact⟨_,_,by rw [h]⟩
  ·exact⟨_,_,rfl⟩
 have UN:=Zaa (fun (w':World) (hb:Below w.heap.size w w')=>ZkQ l hB P _ zs w' (Ze3 ho hb) (hk.kept (fun b _ hl=>hb.block b hl)) (fun b h=>by have:=hP b h;have:=hb.size;omega) (by omega))
 have child:=Zaa (fun k p h=>Zew ho hk k p h)
 replace hB:=Zaa hB
 replace hP:=Zaa hP
 replace hok:=Zaa hok
 have H:=St.start Nope w
 clear ho hk
 go_enter Tryz.func78,Tryz.ntmps78
 go_wp2_with (first|((with_reducible refine Zae 85 ?_);refine Za0 H ?_;clear H;intro g2 w1 H q1 q2;have hb1:=H.below)|(go_at_call 132;refine (UN.out _ hb1).mono ?_))
 intro e w2 hR
 obtain⟨B2,hcase⟩:=hR
 have hg2:=H.lti 0 rfl
 have H2:=H.call B2 (Nat.le_refl _)
 have h2g:=Zaa (H2.get 0 rfl)
 have h2b:=Zaa H2.below
 have s12:=Zaa B2.size
 rcases hcase with⟨hn,rfl⟩|⟨ts,tv,hm,rfl,om⟩
 ·have hfin:Hid (Zdg l=.ask (tg 4 (l.map Pt.asked))):=by show _=_;unfold Zdg;rw [hn]
  have hPb:Hid (∀ b,P b->b<w2.heap.size):=fun b hb=>by have:=hP.out b hb;have:=hb1.size;have:=s12.out;omega
  have hg22:g2<w2.heap.size:=by have:=s12.out;omega
  have hws2:w.heap.size<=w2.heap.size:=by have:=hb1.size;have:=s12.out;omega
  have hH2:=Zaa H2
  clear H H2 B2 hn UN
  go_wp2
  go_loopw [5,18] (fun lv iv wr=>∃ (k:Nat),k<=l.length/\iv=.int .i64 (k:Int)/\Hid (RqP wr w2.heap.size P lv (fq ((l.take k).map Pt.asked)))/\Hid (St Nope w wr [(true,g2,85,pA false nilS 0 [] nilS)])/\Hid (w2.heap.size<=wr.heap.size)) (fun _ iv _=>l.length - (intOf iv).toNat)
  case atStart=>exact⟨0,Nat.zero_le _,rfl,RqP.start _ _ _,hH2.out,Nat.le_refl _⟩
  case round =>
   obtain⟨k,hk,rfl,R,H,hws⟩:=hrel
   by_cases hlt:k<l.length
   ·have i3:(k:Int)<(l.length:Int):=by omega
    obtain⟨p,hp⟩:∃ p,l[k]?=some p:=⟨_,List.getElem?_eq_getElem hlt⟩
    obtain⟨g,b,tv,o,t,lv,hva,hto,hlo,hpv,hld⟩:=child.out k p hp
    subst hva
    have hpB:=hB.out p (List.mem_of_getElem? hp)
    have hbw:=H.out.below
    have hl1:=Zaa (hld wr hbw)
    have AK:=Zaa (fun (w':World) (hb:Below w.heap.size w w')=>ZiU p hpB P _ w' (hpv.kept (fun b _ hl=>hb.block b hl)) (fun b h=>by have:=hP.out b h;have:=hb.size;omega))
    have hxk:Hid ((fq ((l.take k).map Pt.asked)).snoc p.asked=fq ((l.take (k+1)).map Pt.asked)):=by
     show _=_
     rw [Zdt,List.take_add_one,hp];simp
    have hfl2:Hid ((fq ((l.take k).map Pt.asked)).len<=1000000):=by
     show _<=_
     rw [ZcG,List.length_map,List.length_take];omega
    have HH:=St.start Nope wr
    replace hp:=Zaa hp
    clear hld hpv
    go_wp2_with (first|((with_reducible refine Zac 85 ?_);refine Zau 85 rfl hl1.out ?_)|((with_reducible refine Zae 85 ?_);refine Za0 HH ?_;clear HH;intro g7 w7 HH q3 q4)|((with_reducible refine Zab 85 ?_);refine ZbZ 0 (b':=b) (tv':=tv) (o':=o) (t':=t) (l':=lv) HH rfl rfl rfl hto hlo ?_;clear HH;intro w8 HH;have hb8r:=HH.below;have hb8:=hbw.trans (hb8r.mono hbw.size);have h78:=Zaa (ZbQ (HH.get 0 rfl)))|((with_reducible refine Zac 85 ?_);refine Zau 85 rfl h78.out ?_)|(go_at_call 36;refine (AK.out _ hb8).mono ?_))
    rintro e w9 ⟨z,rfl,hq,B9⟩
    have b9r:=hb8r.trans (B9.mono hb8r.size)
    have H9:=H.out.call b9r (Nat.le_refl _)
    have R9:=R.out.kept (fun b _ hl=>b9r.block b hl)
    have lt9:=Zaa (fun k hk=>Nat.lt_of_lt_of_le (R.out.top k hk) hb8r.size)
    have s28:=Nat.le_trans hws.out hb8r.size
    have s89:=B9.size
    have hqh:=Zaa hq
    clear HH AK B9 hq R H b9r
    go_wp2_with ((with_reducible refine at_snocP ?_);refine wl_snocP (t:=p.asked) H9 hPb.out R9 hqh.out (fun _=>rfl) (fun _=>rfl) rfl lt9.out s28 s89 hfl2.out (fun e he=>by rw [List.mem_singleton.1 he];exact hg22) hws2 ?_;intro u v5 w5 H5 R5 s5)
    rw [hxk.out] at R5
    have R5h:=Zaa R5
    have H5h:=Zaa H5
    have s5h:Hid (w2.heap.size<=w5.heap.size):=Nat.le_trans s28 (Nat.le_trans s89 s5)
    clear R5 H5 s5 H9 R9
    go_wp2
    go_roundw
    case rel=>exact⟨k+1,by omega,by simp,R5h,H5h,s5h⟩
    case measure=>simp [intOf];omega
   ·obtain rfl:k=l.length:=by omega
    have i4:¬ ((l.length:Int)<(l.length:Int)):=by omega
    rw [List.take_of_length_le (Nat.le_refl _)] at R
    obtain⟨zs,oo,kk,pp⟩:=RqP.row R.out
    have TG:=Zaa (ZcD 4 (.inr rfl) (fun b=>P b\/w2.heap.size<=b) _ _ zs _ (ZbH oo (Nat.zero_le _)) pp kk (fun q hq=>by
     obtain⟨s,hs,rfl⟩:=List.mem_map.1 hq
     exact hok.out s hs) (by omega))
    clear oo kk pp R
    go_wp2_with (go_at_call 131;refine TG.out.mono ?_)
    intro e w4 x he hq B4
    subst he
    have H4:=H.out.call B4 (Nat.le_refl _)
    have hq2:=Zaa (hq.mono (P':=fun b=>P b\/w2.heap.size<=b) (fun b _ hb=>by
     have:=hws.out
     rcases hb with (h|h)|h
     ·exact .inl h
     ·exact .inr h
     ·exact .inr (by omega)))
    obtain⟨xa,xm,xc,rfl⟩:=hq2.out.slice
    have h4g:=Zaa (H4.get 0 rfl)
    have h4b:=Zaa H4.below
    clear TG hq B4 H4
    go_wp2_with (first|((with_reducible refine Zbo ?_);refine ZaI (ZbA _ (tg 4 (l.map Pt.asked)).op (tg 4 (l.map Pt.asked)).tx xa xm xc rfl _) ?_)|((with_reducible refine Zab 85 ?_);refine ZaQ 85 (v:=pV false nilS (tg 4 (l.map Pt.asked)).op (tg 4 (l.map Pt.asked)).tx (.slice xa xm xc)) rfl rfl (Zbs h4g.out rfl rfl) ?_))
    refine bodyPost_ret (Zaf rfl _ _ _ _ rfl (ZbQ (setRow_heap _ _ _ _ 85 (0,0) h4g.out))) rfl ?_
    have hpv:PaV w4 (fun b=>P b\/w2.heap.size<=b) (pV false nilS (tg 4 (l.map Pt.asked)).op (tg 4 (l.map Pt.asked)).tx (.slice xa xm xc)) (.ask (tg 4 (l.map Pt.asked))):=⟨_,rfl,hq2.out⟩
    obtain⟨r1,r2⟩:=ZdO h4g.out h4b.out q1 hpv (fun h=>by
     rcases h with h|h
     ·have:=hP.out _ h;omega
     ·omega)
    refine⟨_,rfl,?_,r2⟩
    rw [hfin.out]
    exact r1.mono (fun b _ hb=>hb.imp id (fun h=>by omega))
 ·have hfin:Hid (Zdg l=.told ts):=by show _=_;unfold Zdg;rw [hm]
  obtain⟨ta,tc,rfl⟩:=ZbE om
  have omH:=Zaa om
  clear H H2 B2 om hm child UN
  go_wp2_with (first|((with_reducible refine Zbo ?_);refine ZaI (Zb3 _ ta ts.length tc rfl rfl _) ?_)|((with_reducible refine Zab 85 ?_);refine ZaQ 85 (v:=pV true (.slice ta ts.length tc) 0 [] nilS) rfl rfl (Zbs h2g.out rfl rfl) ?_))
  refine bodyPost_ret (Zaf rfl _ _ _ _ rfl (ZbQ (setRow_heap _ _ _ _ 85 (0,0) h2g.out))) rfl ?_
  have hpv:PaV w2 (fun b=>w1.heap.size<=b) (pV true (.slice ta ts.length tc) 0 [] nilS) (.told ts):=⟨_,rfl,Zbk omH.out (Nat.zero_le _),fun b hb=>(ZaN omH.out hb).1⟩
  obtain⟨r1,r2⟩:=ZdO h2g.out h2b.out q1 hpv (fun h=>by omega)
  refine⟨_,rfl,?_,r2⟩
  rw [hfin.out]
  exact r1.mono (fun b _ hb=>.inr (by have:=hb1.size;omega))
end G
namespace G
open Go.RowKit Go.Shelf
attribute [local go_sem] Oper.semAt_some
def ZbK (s:S4)(k:Nat):List Tx:=((List.range k).filter (fun b=>inS s b)).map (fun b=>[UInt8.ofNat b])
def ZcW (s:S4):Pt:=if 8<(ZbK s 256).length then .ask allQ else .told (ZbK s 256)
theorem Zd7 (s:S4)(k:Nat):ZbK s (k+1)=if inS s k=true then ZbK s k++[[UInt8.ofNat k]] else ZbK s k:=by
 unfold ZbK
 rw [List.range_succ,List.filter_append,List.map_append]
 by_cases h:inS s k=true <;> simp [h]
theorem ZhJ (s:S4)(k:Nat):(ZbK s k).length<=k:=by
 unfold ZbK
 rw [List.length_map]
 exact Nat.le_trans (List.length_filter_le _ _) (by simp)
theorem convByte (k:Nat)(hk:k<256)(w:World):(convert 131 9 (.slice (some ⟨w.heap.size,0,none⟩) 1 1)).run Tryz.prog (w.alloc (.cells #[.int .u8 (k:Int)] 5))=.ok (.string ⟨[UInt8.ofNat k].toArray⟩) (w.alloc (.cells #[.int .u8 (k:Int)] 5)):=by
 refine run_convert_bytes_back (P:=Tryz.prog) _ 131 9 5 ⟨w.heap.size,0,none⟩ 1 [UInt8.ofNat k] Tryz.underlying131 Tryz.underlying5 Tryz.underlying9 (fun j hj=>?_)
 obtain rfl:j=0:=by simpa using hj
 rw [Zav,cell_of_row _ _ _ _ _ _ (heap_alloc_new w _)]
 have:(UInt8.ofNat k).toNat=k:=by simp;omega
 simp [this]
set_option maxRecDepth 100000 in
theorem Zgw (s:S4)(hs:OkS s)(w:World) :
  Calls Tryz.prog 80 #[Zbf s] w fun e w'=>∃ x,e=.returned x/\PaV w' (fun b=>w.heap.size<=b) x (ZcW s)/\Below w.heap.size w w':=by
 have H:=St.start Nope w
 go_enter Tryz.func80,Tryz.ntmps80
 go_wp2_with (first|((with_reducible refine Zar 24 ?_);refine Zel (s:=s) H rfl ?_;clear H;intro g1 w1 H q1 q2)|((with_reducible refine Zae 85 ?_);refine Za0 H ?_;clear H;intro g2 w2 H q3 q4))
 have hg2:=H.lti 0 rfl
 have hg1:=H.lti 1 rfl
 have hw2:=H.below.size
 go_loopw [3,5] (fun lv iv wr=>∃ (k:Nat),k<=256/\iv=.int .i64 (k:Int)/\Hid (wr.ownsRow w2.heap.size 9 1 lv (ZbK s k).length ((ZbK s k).map encStr))/\Hid (St Nope w wr [(true,g2,85,pA false nilS 0 [] nilS),(true,g1,24,Zce s)])/\Hid (w2.heap.size<=wr.heap.size)) (fun _ iv _=>256 - (intOf iv).toNat)
 case atStart=>exact⟨0,Nat.zero_le _,rfl,⟨rfl,.inl ⟨rfl,rfl⟩⟩,H,Nat.le_refl _⟩
 case round =>
  clear H
  obtain⟨k,hk,rfl,R,H,hws⟩:=hrel
  by_cases hlt:k<256
  ·have i3:(k:Int)<256:=by omega
   have i4:(k:Int) % 256=(k:Int):=by omega
   have HA:=Zaa (fun w'=>ZmD s hs k hlt w')
   have HH:=H.out
   cases hin:inS s k with
   | false =>
    rw [hin] at HA
    go_wp2_with (first|((with_reducible refine Zac 24 ?_);refine Zaq 1 HH rfl rfl ?_)|(go_at_call 134;refine (HA.out _).mono ?_))
    rintro e w4 ⟨rfl,B4⟩
    have R4:Hid (w4.ownsRow w2.heap.size 9 1 u3 (ZbK s (k+1)).length ((ZbK s (k+1)).map encStr)):=by
     show World.ownsRow _ _ _ _ _ _ _
     rw [Zd7,if_neg (by rw [hin];exact Bool.false_ne_true)]
     exact ZaA R.out (fun j hj=>B4.block j (ZaN R.out hj).2)
    have H4:=Zaa (H.out.call B4 (Nat.le_refl _))
    have s4:Hid (w2.heap.size<=w4.heap.size):=Nat.le_trans hws.out B4.size
    clear R H HH B4
    go_wp2
    go_roundw
    case rel=>exact⟨k+1,by omega,by simp,R4,H4,s4⟩
    case measure=>simp [intOf];omega
   | true =>
    rw [hin] at HA
    go_wp2_with (first|((with_reducible refine Zac 24 ?_);refine Zaq 1 HH rfl rfl ?_)|(go_at_call 134;refine (HA.out _).mono ?_))
    rintro e w4 ⟨rfl,B4⟩
    have hcv:=convByte k hlt w4
    have B6:Below w4.heap.size w4 ((w4.alloc (.cells #[.int .u8 (k:Int)] 5)).alloc (.cells #[.string ⟨[UInt8.ofNat k].toArray⟩] 9)):=((Below.refl _ w4).alloc (Nat.le_refl _) _).alloc (by simp) _
    have O6:=Zaa (ZaA (w':=(w4.alloc (.cells #[.int .u8 (k:Int)] 5)).alloc (.cells #[.string ⟨[UInt8.ofNat k].toArray⟩] 9)) R.out (fun j hj=>(B6.block j (by have:=(ZaN R.out hj).2;have:=B4.size;omega)).trans (B4.block j (ZaN R.out hj).2)))
    have U6:Hid (((w4.alloc (.cells #[.int .u8 (k:Int)] 5)).alloc (.cells #[.string ⟨[UInt8.ofNat k].toArray⟩] 9)).ownsRow 0 9 1 (.slice (some ⟨w4.heap.size+1,0,none⟩) 1 1) [[UInt8.ofNat k]].length ([[UInt8.ofNat k]].map encStr)):=by
     have h:=heap_alloc_new (w4.alloc (.cells #[.int .u8 (k:Int)] 5)) (.cells #[.string ⟨[UInt8.ofNat k].toArray⟩] 9)
     rw [World.size_alloc] at h
     exact⟨rfl,.inr ⟨_,1,_,rfl,Nat.zero_le _,h,Nat.le_refl _,by unfold maxLen;omega,rfl,rfl⟩⟩
    have hnn:(ZbK s k).length+[[UInt8.ofNat k]].length<=1000000:=by have:=ZhJ s k;simp;omega
    have s6:w2.heap.size<=((w4.alloc (.cells #[.int .u8 (k:Int)] 5)).alloc (.cells #[.string ⟨[UInt8.ofNat k].toArray⟩] 9)).heap.size:=by have:=hws.out;have:=B4.size;simp;omega
    have b06:=Zaa (B4.trans (B6.mono B4.size))
    have hst:Hid (ZbK s k++[[UInt8.ofNat k]]=ZbK s (k+1)):=by show _=_;rw [Zd7,if_pos hin]
    replace B4:=Zaa B4
    replace B6:=Zaa B6
    clear HH HA
    go_wp2_with ((with_reducible refine Zne ?_);refine Znf rfl rfl O6.out U6.out hnn s6 ?_;intro v8 w8 o8 B8;replace o8:=Zaa o8;replace B8:=Zaa B8)
    rw [hst.out] at o8
    have H6:=H.out.call b06.out (Nat.le_refl _)
    have H8:Hid (St Nope w w8 [(true,g2,85,pA false nilS 0 [] nilS),(true,g1,24,Zce s)]):=by
     refine⟨H6.but.trans (T:=fun k=>w2.heap.size<=k) (Zbd B8.out _ (fun k _ h=>h)) (fun i hi h=>by omega),fun y hy=>?_,H6.ok,H6.nd⟩
     have hl:y.2.1<w2.heap.size:=by
      simp only [List.mem_cons,List.not_mem_nil,or_false] at hy
      rcases hy with rfl|rfl
      ·exact hg2
      ·exact hg1
     rw [B8.out.block _ hl]
     exact H6.all y hy
    have s8:Hid (w2.heap.size<=w8.heap.size):=Nat.le_trans s6 B8.out.size
    clear H6 R H s6
    go_wp2
    go_roundw
    case rel=>exact⟨k+1,by omega,by simp,o8,H8,s8⟩
    case measure=>simp [intOf];omega
  ·obtain rfl:k=256:=by omega
   obtain⟨ta,tc,hta⟩:=ZbE R.out
   have hl256:=ZhJ s 256
   have h4g:=Zaa (H.out.get 0 rfl)
   have h4b:=Zaa H.out.below
   by_cases hbig:8<(ZbK s 256).length
   ·have i5:(8:Int)<((ZbK s 256).length:Int):=by omega
    have hfin:Hid (ZcW s=.ask allQ):=by show _=_;unfold ZcW;rw [if_pos hbig]
    subst hta
    generalize (ZbK s 256).length=m at *
    clear R H
    go_wp2_with (first|((with_reducible refine Zd5 ?_);refine ZaI (Zb2 _ 0 rfl _) ?_)|((with_reducible refine Zbo ?_);refine ZaI (ZbA _ 0 [] none 0 0 rfl _) ?_)|((with_reducible refine Zab 85 ?_);refine ZaQ 85 (v:=pV false nilS 0 [] nilS) rfl rfl (Zbs h4g.out rfl rfl) ?_))
    refine bodyPost_ret (Zaf rfl _ _ _ _ rfl (ZbQ (setRow_heap _ _ _ _ 85 (0,0) h4g.out))) rfl ?_
    have hpv:PaV wr (fun b=>w2.heap.size<=b) (pV false nilS 0 [] nilS) (.ask allQ):=⟨nilS,rfl,nilS,[],rfl,⟨rfl,.inl ⟨rfl,rfl⟩⟩,fun b hb=>(by cases hb),rfl⟩
    obtain⟨r1,r2⟩:=ZdO h4g.out h4b.out q3 hpv (fun h=>by omega)
    refine⟨_,rfl,?_,r2⟩
    rw [hfin.out]
    exact r1.mono (fun b _ hb=>by omega)
   ·have i5:¬ (8:Int)<((ZbK s 256).length:Int):=by omega
    have hfin:Hid (ZcW s=.told (ZbK s 256)):=by show _=_;unfold ZcW;rw [if_neg hbig]
    subst hta
    have RH:=Zaa R.out
    clear R H
    go_wp2_with (first|((with_reducible refine Zbo ?_);refine ZaI (Zb3 _ ta (ZbK s 256).length tc rfl rfl _) ?_)|((with_reducible refine Zab 85 ?_);refine ZaQ 85 (v:=pV true (.slice ta (ZbK s 256).length tc) 0 [] nilS) rfl rfl (Zbs h4g.out rfl rfl) ?_))
    refine bodyPost_ret (Zaf rfl _ _ _ _ rfl (ZbQ (setRow_heap _ _ _ _ 85 (0,0) h4g.out))) rfl ?_
    have hpv:PaV wr (fun b=>w2.heap.size<=b) (pV true (.slice ta (ZbK s 256).length tc) 0 [] nilS) (.told (ZbK s 256)):=⟨_,rfl,Zbk RH.out (Nat.zero_le _),fun b hb=>(ZaN RH.out hb).1⟩
    obtain⟨r1,r2⟩:=ZdO h4g.out h4b.out q3 hpv (fun h=>by omega)
    refine⟨_,rfl,?_,r2⟩
    rw [hfin.out]
    exact r1.mono (fun b _ hb=>by omega)
end G
namespace G
open Go.RowKit Go.Shelf
attribute [local go_sem] Oper.semAt_some
set_option maxRecDepth 100000 in
theorem isFit_ok (o:Int)(t:Tx)(va:Option Addr)(m c:Nat)(h:((o=0\/o=1)/\t=[]/\m=0)\/(o=2/\t.length=3/\m=0)\/((o=3\/o=4)/\t=[]))(w:World) :
  Calls Tryz.prog 46 #[qV o t (.slice va m c)] w fun e w'=>e=.returned (.bool true)/\Below w.heap.size w w':=by
 have H:=St.start Nope w
 rcases h with⟨ho,rfl,rfl⟩|⟨rfl,ht,rfl⟩|⟨ho,rfl⟩
 ·rcases ho with rfl|rfl
  ·go_enter Tryz.func46,Tryz.ntmps46
   go_wp2_with ((with_reducible refine Zar 30 ?_);refine ZaK H rfl ?_;clear H;intro g1 w1 H q1 q2;have c0:=H.cell 0 0 rfl (v:=.int .i64 0) rfl;have c1:=H.cell 0 1 rfl (v:=.string ⟨#[]⟩) rfl;have c2:=H.cell 0 2 rfl (v:=.slice va 0 c) rfl;have hb:=Zaa H.below;clear H)
   go_ret
   exact⟨rfl,hb.out⟩
  ·go_enter Tryz.func46,Tryz.ntmps46
   go_wp2_with ((with_reducible refine Zar 30 ?_);refine ZaK H rfl ?_;clear H;intro g1 w1 H q1 q2;have c0:=H.cell 0 0 rfl (v:=.int .i64 1) rfl;have c1:=H.cell 0 1 rfl (v:=.string ⟨#[]⟩) rfl;have c2:=H.cell 0 2 rfl (v:=.slice va 0 c) rfl;have hb:=Zaa H.below;clear H)
   go_ret
   exact⟨rfl,hb.out⟩
 ·obtain⟨S,hS⟩:∃ S:ByteArray,S=⟨t.toArray⟩:=⟨_,rfl⟩
  have hSz:S.size=3:=by rw [hS];simpa [ByteArray.size] using ht
  go_enter Tryz.func46,Tryz.ntmps46
  go_wp2_with ((with_reducible refine Zar 30 ?_);refine ZaK H rfl ?_;clear H;intro g1 w1 H q1 q2;have c0:=H.cell 0 0 rfl (v:=.int .i64 2) rfl;have c1:=H.cell 0 1 rfl (v:=.string ⟨t.toArray⟩) rfl;have c2:=H.cell 0 2 rfl (v:=.slice va 0 c) rfl;rw [<- hS] at c1;replace hS:=Zaa hS;have hb:=Zaa H.below;clear H)
  go_ret
  exact⟨rfl,hb.out⟩
 ·rcases ho with rfl|rfl
  ·go_enter Tryz.func46,Tryz.ntmps46
   go_wp2_with ((with_reducible refine Zar 30 ?_);refine ZaK H rfl ?_;clear H;intro g1 w1 H q1 q2;have c0:=H.cell 0 0 rfl (v:=.int .i64 3) rfl;have c1:=H.cell 0 1 rfl (v:=.string ⟨#[]⟩) rfl;have hb:=Zaa H.below;clear H)
   go_ret
   exact⟨rfl,hb.out⟩
  ·go_enter Tryz.func46,Tryz.ntmps46
   go_wp2_with ((with_reducible refine Zar 30 ?_);refine ZaK H rfl ?_;clear H;intro g1 w1 H q1 q2;have c0:=H.cell 0 0 rfl (v:=.int .i64 4) rfl;have c1:=H.cell 0 1 rfl (v:=.string ⟨#[]⟩) rfl;have hb:=Zaa H.below;clear H)
   go_ret
   exact⟨rfl,hb.out⟩
end G
namespace G
open Go.RowKit Go.Shelf
attribute [local go_sem] Oper.semAt_some
structure Qn where
 o:Int
 t:Tx
def Qf.nth:Qf->Nat->Qn × Qf
 | .nil,_=>(⟨0,[]⟩,.nil)
 | .cons o t k _,0=>(⟨o,t⟩,k)
 | .cons _ _ _ r,i+1=>r.nth i
def szQ (t:Qn × Qf):Nat:=1+t.2.sz
def Qf.szTo (f:Qf):Nat->Nat
 | 0=>0
 | i+1=>f.szTo i+szQ (f.nth i)
theorem ZfH (o:Int)(t:Tx)(k r:Qf):∀ i,(Qf.cons o t k r).szTo (i+1)=szQ (⟨o,t⟩,k)+r.szTo i
 | 0=>by simp [Qf.szTo,Qf.nth]
 | i+1=>by rw [Qf.szTo,ZfH o t k r i];simp [Qf.szTo,Qf.nth];omega
theorem ZhK:∀ f:Qf,f.szTo f.len=f.sz
 | .nil=>rfl
 | .cons o t k r=>by rw [Qf.len,ZfH,ZhK r];simp [szQ,Qf.sz]
theorem qszTo_le (f:Qf):∀ i,i<=f.len->f.szTo i<=f.sz:=by
 have mono:∀ j i,f.szTo i<=f.szTo (i+j):=fun j=>by
  induction j with
  | zero=>intro i;exact Nat.le_refl _
  | succ j ih=>intro i;have:=ih i;show _<=f.szTo (i+j)+_;omega
 intro i hi
 have:=mono (f.len - i) i
 rw [show i+(f.len - i)=f.len by omega,ZhK] at this
 exact this
def AllQ (Pr:Nat->Qn->Nat->Prop):Nat->Qf->Prop
 | _,.nil=>True
 | d,.cons o t k r=>Pr d ⟨o,t⟩ k.len/\AllQ Pr (d+1) k/\AllQ Pr d r
theorem AllQ.nth {Pr:Nat->Qn->Nat->Prop}{d:Nat}:∀ {f:Qf},AllQ Pr d f->∀ i,i<f.len->Pr d (f.nth i).1 (f.nth i).2.len/\AllQ Pr (d+1) (f.nth i).2
 | .nil,_,i,h=>by simp [Qf.len] at h
 | .cons o t k r,⟨h1,h2,h3⟩,0,_=>⟨h1,h2⟩
 | .cons o t k r,⟨h1,h2,h3⟩,i+1,h=>AllQ.nth h3 i (by simpa [Qf.len] using h)
theorem Kq.nthQ {w:World}{P:Nat->Prop}:∀ {f:Qf}{xs:List Value},Kq w P f xs->∀ i,i<f.len->∃ v zs,(∀ j u,(qA (f.nth i).1.o (f.nth i).1.t v)[j]?=some u->xs[i * 3+j]?=some u)/\w.ownsRow 0 30 3 v (f.nth i).2.len zs/\(∀ b,v.ownBlock=some b->P b)/\Kq w P (f.nth i).2 zs
 | .nil,_,_,i,h=>by simp [Qf.len] at h
 | .cons o t k r,xs,⟨v,ys,zs,e,ow,p,k1,k2⟩,0,_=>⟨v,zs,fun j u hj=>by
   rw [e,Nat.zero_mul,Nat.zero_add]
   have hj':j<3:=by
    have:=(Array.getElem?_eq_some_iff.1 hj).1
    simpa [qA] using this
   rw [List.getElem?_append_left (by simp [qA];exact hj')]
   simpa [Qf.nth] using hj,ow,p,k1⟩
 | .cons o t k r,xs,⟨v,ys,zs,e,ow,p,k1,k2⟩,i+1,h=>by
   obtain⟨v',zs',h1,h2⟩:=Kq.nthQ k2 i (by simpa [Qf.len] using h)
   refine⟨v',zs',fun j u hj=>?_,h2⟩
   rw [e,List.getElem?_append_right (by simp [qA];omega)]
   have:=h1 j u hj
   simp only [qA,List.length_cons,List.length_nil]
   rw [show (i+1) * 3+j - (0+1+1+1)=i * 3+j by omega]
   exact this
theorem Zd8:∀ f:Qf,f.len<=f.sz
 | .nil=>Nat.le_refl _
 | .cons o t k r=>by have:=Zd8 r;simp only [Qf.len,Qf.sz];omega
structure EmQ (Pr:Nat->Qn->Nat->Prop) where
 d:Nat
 nd:Qn
 ad:Option Addr
 len:Nat
 cap:Nat
 h:Pr d nd len
def encW {Pr:Nat->Qn->Nat->Prop}(e:EmQ Pr):Array Value:=#[.int .i64 (e.d:Int),qV e.nd.o e.nd.t (.slice e.ad e.len e.cap)]
section
variable {F:Fence}{n:Nat}{w w':World}{ops:Array Oper}{rest:List Oper}{a:Act}{Q:Exit->Act->World->Prop}{dst:Option Nat}{x y:Operand}{ty:TypeId}{pos:String}{after:Array Edge}
theorem Ze4 (hF:∀ f,F.fn f){m:Int}{s:Tx}{l:Value}(hx:a.eval x=qV m s l)(h:∀ g w',w'.heap[g]?=some (.cells (qA m s l) 30 (0,0))->Below w.heap.size w w'->w.heap.size<=g->wpListIn F n Tryz.prog ops Q rest (a.put dst (.pointer (some ⟨g,0,none⟩))) w'):wpListIn F n Tryz.prog ops Q (⟨dst,.box 30 x,ty,pos,after,none⟩::rest) a w :=
 ZaF hF (fun c=>nofun) (ZeW _ _ _ _ _ _ m s l hx w) (h _ _ (heap_alloc_new w _) ((Below.refl _ w).alloc (Nat.le_refl _) _) (Nat.le_refl _))
end
theorem ld157 {w:World}{ad:Addr}{v:Value}(h:w.cell? ad=some v):(loadVar 157 ad).run Tryz.prog w=.ok v w:=by
 have ho:∀ w,(sizeOf 157).run Tryz.prog w=.ok 1 w:=fun w=>by kernel_rfl
 have ha:∀ w,(isAgg 157).run Tryz.prog w=.ok false w:=fun w=>by kernel_rfl
 simp [loadVar,ha,go_sem,h]
section
variable {dst:Option Nat}{ty:TypeId}{pos:String}{after:Array Edge}{a:Act}
theorem ZhL (w:World):(execOp a.eval ⟨dst,.alloc 157,ty,pos,after,none⟩).run Tryz.prog w=.ok (.value (.pointer (some ⟨w.heap.size,0,none⟩))) (w.alloc (.cells #[.nilFunc] 157)):=by
 unfold execOp
 kernel_rfl
end
theorem ZkR (n:Nat)(k:Int)(s:Tx)(l:Value)(w:World) :
  CallsIn Fence.wide n Tryz.prog 45 #[qV k s l] w fun e w'=>∃ g,e=.returned (.func (.func 93) #[] #[.pointer (some ⟨g,0,none⟩)])/\w'.heap[g]?=some (.cells (qA k s l) 30 (0,0))/\Below w.heap.size w w'/\w.heap.size<=g:=by
 have hmf:∀ (fn:Fn) (first cap:Array Value) (w:World),(Instr.makeFunc fn first cap).run Tryz.prog w=.ok (.func fn first cap) w:=fun _ _ _ _=>rfl
 refine callsIn_of_wp Tryz.func45 rfl trivial ?_ rfl
 simp only [Tryz.ntmps45,List.size_toArray,List.length_cons,List.length_nil,Nat.reduceAdd,Nat.reduceSub,Array.replicate_succ,Array.replicate_zero,List.push_toArray,List.append_toArray,List.nil_append,List.cons_append]
 gi_wp2_with (first|((with_reducible refine Zbh 30 ?_);refine Ze4 Zad rfl ?_;intro g w1 hb B1 hge;replace hb:=Zaa hb))
 go_ret
 exact⟨g,rfl,hb.out,B1,hge⟩
theorem Znh {w:World}{g:Nat}{u:Value}{f:Fn}{xs ys:Array Value}(h:w.heap[g]?=some (.cells #[u] 157 (0,0))):(storeVar 157 ⟨g,0,none⟩ (.func f xs ys)).run Tryz.prog w=.ok () (w.setCell ⟨g,0,none⟩ (.func f xs ys)):=by
 have hc:=Zal h 0 (v:=u) rfl
 have hf:=frozen_of_row w g 0 _ 157 h
 have e:(storeCells ⟨g,0,none⟩ [.func f xs ys]).run Tryz.prog w=.ok () (w.setCell ⟨g,0,none⟩ (.func f xs ys)):=by simp [storeCells,go_sem,run_store Tryz.prog w _ (.func f xs ys) _ rfl,stored,hc,hf]
 have o157:∀ w,(sizeOf 157).run Tryz.prog w=.ok 1 w:=fun w=>by kernel_rfl
 have e4:(Value.func f xs ys).cells=#[.func f xs ys]:=rfl
 unfold storeVar
 simp only [Sem.run_bind,o157,Result.andThen_ok,e4]
 simpa using e
section
variable {F:Fence}{n:Nat}{w w':World}{ops:Array Oper}{rest:List Oper}{a:Act}{Q:Exit->Act->World->Prop}{dst:Option Nat}{x y:Operand}{ty:TypeId}{pos:String}{after:Array Edge}
theorem ZkS (hF:∀ f,F.fn f){f:Fn}{xs ys:Array Value}(hx:a.eval x=.func f xs ys)(h:∀ g w',w'.heap[g]?=some (.cells #[.func f xs ys] 157 (0,0))->Below w.heap.size w w'->w.heap.size<=g->wpListIn F n Tryz.prog ops Q rest (a.put dst (.pointer (some ⟨g,0,none⟩))) w'):wpListIn F n Tryz.prog ops Q (⟨dst,.box 157 x,ty,pos,after,none⟩::rest) a w:=by
 have e:(execOp a.eval ⟨dst,.box 157 x,ty,pos,after,none⟩).run Tryz.prog w=.ok (.value (.pointer (some ⟨w.heap.size,0,none⟩))) (w.alloc (.cells #[.func f xs ys] 157)):=by
  unfold execOp
  simp only [hx]
  kernel_rfl
 exact ZaF hF (fun c=>nofun) e (h _ _ (heap_alloc_new w _) ((Below.refl _ w).alloc (Nat.le_refl _) _) (Nat.le_refl _))
theorem ZfI (t:TypeId)(h:wpListIn F n Tryz.prog ops Q (⟨dst,.alloc t,ty,pos,after,none⟩::rest) a w):wpListIn F n Tryz.prog ops Q (⟨dst,.alloc t,ty,pos,after,none⟩::rest) a w:=h
theorem Zb5 (t:TypeId)(h:wpListIn F n Tryz.prog ops Q (⟨none,.store t x y,ty,pos,after,none⟩::rest) a w):wpListIn F n Tryz.prog ops Q (⟨none,.store t x y,ty,pos,after,none⟩::rest) a w:=h
theorem ZhM (hF:∀ f,F.fn f)(h:∀ g w',w'.heap[g]?=some (.cells #[.nilFunc] 157 (0,0))->Below w.heap.size w w'->w.heap.size<=g->wpListIn F n Tryz.prog ops Q rest (a.put dst (.pointer (some ⟨g,0,none⟩))) w'):wpListIn F n Tryz.prog ops Q (⟨dst,.alloc 157,ty,pos,after,none⟩::rest) a w :=
 ZaF hF (fun c=>nofun) (ZhL w) (h _ _ (heap_alloc_new w _) ((Below.refl _ w).alloc (Nat.le_refl _) _) (Nat.le_refl _))
theorem Zni (hF:∀ f,F.fn f){g:Nat}{u:Value}{f:Fn}{xs ys:Array Value}(hg:w.heap[g]?=some (.cells #[u] 157 (0,0)))(hx:a.eval x=.pointer (some ⟨g,0,none⟩))(hy:a.eval y=.func f xs ys)(h:∀ w',w'.heap[g]?=some (.cells #[.func f xs ys] 157 (0,0))->But (fun k=>k=g) w w'->wpListIn F n Tryz.prog ops Q rest a w'):wpListIn F n Tryz.prog ops Q (⟨none,.store 157 x y,ty,pos,after,none⟩::rest) a w:=by
 refine Za4 (w':=w.setCell ⟨g,0,none⟩ (.func f xs ys)) hF (fun c=>nofun) ?_ (h _ ?_ ?_)
 ·unfold execOp
  simp only [hx,hy,Instr.storeAt,Instr.sureAddr,Sem.run_bind,Sem.run_pure,Result.andThen_ok,Znh hg]
 ·exact heap_setCell_same w g 0 _ 157 _ hg
 ·exact⟨rfl,rfl,rfl,by simp [World.setCell],fun k hk hn=>Below.heap_setCell w ⟨g,0,none⟩ _ k hn⟩
end
end G
namespace G
open Go.RowKit Go.Shelf
attribute [local go_sem] Oper.semAt_some
def Qf.ems:Nat->Qf->List (Nat × Qn × Nat)
 | _,.nil=>[]
 | d,.cons o t k r=>(d,⟨o,t⟩,k.len)::(k.ems (d+1)++r.ems d)
def Zh1 (d:Nat)(t:Qn × Qf):List (Nat × Qn × Nat):=(d,t.1,t.2.len)::t.2.ems (d+1)
def Qf.emsTo (f:Qf)(d:Nat):Nat->List (Nat × Qn × Nat)
 | 0=>[]
 | i+1=>f.emsTo d i++Zh1 d (f.nth i)
theorem Ze5 (o:Int)(t:Tx)(k r:Qf)(d:Nat):∀ i,(Qf.cons o t k r).emsTo d (i+1)=Zh1 d (⟨o,t⟩,k)++r.emsTo d i
 | 0=>by simp [Qf.emsTo,Qf.nth]
 | i+1=>by rw [Qf.emsTo,Ze5 o t k r d i,Qf.emsTo,List.append_assoc];rfl
theorem ZfJ:∀ (f:Qf)(d:Nat),f.emsTo d f.len=f.ems d
 | .nil,_=>rfl
 | .cons o t k r,d=>by rw [Qf.len,Ze5,ZfJ r,Qf.ems];simp [Zh1]
theorem Zgx:∀ (f:Qf)(d:Nat),(f.ems d).length=f.sz
 | .nil,_=>rfl
 | .cons o t k r,d=>by simp [Qf.ems,Qf.sz,Zgx k,Zgx r];omega
theorem Zj2 (t:Qn × Qf)(d:Nat):(Zh1 d t).length=szQ t:=by simp [Zh1,szQ,Zgx];omega
theorem Zgy {Q:Nat->Qn->Nat->Prop}:∀ (f:Qf)(d:Nat),(∀ x ∈ f.ems d,Q x.1 x.2.1 x.2.2)->AllQ Q d f
 | .nil,_,_=>trivial
 | .cons o t k r,d,h=>⟨h (d,⟨o,t⟩,k.len) (by simp [Qf.ems]),Zgy k (d+1) (fun x hx=>h x (by simp [Qf.ems,hx])),Zgy r d (fun x hx=>h x (by simp [Qf.ems,hx]))⟩
def keyQ {Pr:Nat->Qn->Nat->Prop}(x:EmQ Pr):Nat × Qn × Nat:=(x.d,x.nd,x.len)
def Give2Q {Pr:Nat->Qn->Nat->Prop}(S:Nat->Prop)(J Jx:List (EmQ Pr)->World->Prop)(pre:List (EmQ Pr))(kl:List (Nat × Qn × Nat))(W:World)(e:Ending)(W':World):Prop :=
 (e=.returned (.bool true)/\(∃ xs,xs.map keyQ=kl/\J (pre++xs) W')/\Kc S W W')\/(e=.returned (.bool false)/\∃ p,Jx p W')
set_option maxRecDepth 100000 in
theorem Znj {Pr:Nat->Qn->Nat->Prop}(S:Nat->Prop)(l Y G B0:Nat)(J Jx:List (EmQ Pr)->World->Prop)(B:Nat)(hAJ:AbidesFrom B J)(NN:Nat)
  (hYY:∀ m pre x W1,J pre W1->pre.length<NN->YieldAt Fence.wide m Tryz.prog l (encW x) W1 fun e W'=>(e=.returned (.bool true)/\J (pre++[x]) W'/\Kc S W1 W')\/(e=.returned (.bool false)/\Jx (pre++[x]) W'))
  (hYS:¬ S Y) (hGS:¬ S G) (hS:∀ k,B0<=k->¬ S k) :
  ∀ N nd kids,szQ (nd,kids)<=N->∀ (n d:Nat) (W:World) (pre:List (EmQ Pr)) (v:Value) (zs:List Value),Hid (Pr d nd kids.len)->AllQ Pr (d+1) kids->W.ownsRow 0 30 3 v kids.len zs->(∀ b,v.ownBlock=some b->¬ S b)->Kq W (fun b=>¬ S b) kids zs ->
   W.heap[Y]?=some (.cells #[.func (.yield l) #[] #[]] 157 (0,0))->W.heap[G]?=some (.cells #[.func (.func 94) #[] #[.pointer (some ⟨Y,0,none⟩),.pointer (some ⟨G,0,none⟩)]] 157 (0,0))->Hid (J pre W)->pre.length+szQ (nd,kids)<=NN->d+szQ (nd,kids)<=1000000->B0<=W.heap.size ->
   CallsIn Fence.wide n Tryz.prog 94 #[.int .i64 (d:Int),qV nd.o nd.t v,.pointer (some ⟨Y,0,none⟩),.pointer (some ⟨G,0,none⟩)] W (Give2Q S J Jx pre (Zh1 d (nd,kids)) W):=by
 intro N
 induction N with
 | zero=>intro nd kids h;simp [szQ] at h
 | succ N ih =>
  intro nd kids hN n d W pre v zs hPr hA ho hp hk hYb hGb hJ hNN hd hB0
  obtain⟨ad,cap,rfl,hc1,hc2⟩:=Za8 ho
  have hpos:1<=szQ (nd,kids):=by simp [szQ]
  have hlen:kids.len<=1000000:=by have:=Zd8 kids;simp only [szQ] at hd;omega
  have hAJ':=Zaa hAJ
  replace hA:=Zaa hA
  replace hp:=Zaa hp
  replace hk:=Zaa hk
  replace hS:=Zaa hS
  replace ih:=Zaa ih
  replace ho:=Zaa ho
  replace hYYh:=Zaa hYY
  refine callsIn_of_wp Tryz.func94 rfl trivial ?_ rfl
  simp only [Tryz.ntmps94,List.size_toArray,List.length_cons,List.length_nil,Nat.reduceAdd,Nat.reduceSub,Array.replicate_succ,Array.replicate_zero,List.push_toArray,List.append_toArray,List.nil_append,List.cons_append]
  gi_wp2_with (first|((with_reducible refine Zbh 30 ?_);go_loud (refine Ze4 Zad rfl ?_;intro g5 w1 hb5 B1 hge;have hJ1:=Za5 hAJ hJ.out B1;have hc1:=Kc.below (S:=S) B1 (Nat.le_refl _);have hY1:=hc1.2 Y _ _ _ hYS hYb;have cY:=Zal hY1 0 (v:=.func (.yield l) #[] #[]) rfl;obtain⟨fn,tmps,assign,body,hy,hR⟩:=hYY (n - 1) pre ⟨d,nd,ad,kids.len,cap,hPr.out⟩ w1 hJ1 (by omega);simp only [encW] at hy;replace hb5:=Zaa hb5;replace B1:=Zaa B1;replace hJ1:=Zaa hJ1;replace hc1:=Zaa hc1;replace hY1:=Zaa hY1))|((with_reducible refine Zah 157 ?_);refine Zai 157 Zad rfl (ld157 cY) ?_)|((with_reducible refine Zah 30 ?_);refine Zai 30 Zad rfl (ZaY hb5.out) ?_))
  refine⟨fun h=>(by cases h),hR.mono ?_⟩
  rintro e W3 (⟨rfl,hJ3,hk3⟩|⟨rfl,hJx3⟩)
  ·have hcc:Hid (Kc S W W3):=hc1.out.trans hk3
   have hb3:Hid (W3.heap[g5]?=some (.cells (qA nd.o nd.t (.slice ad kids.len cap)) 30 (0,0))):=hk3.2 g5 _ _ _ (hS.out g5 (by omega)) hb5.out
   have cL:=Zal hb3.out 2 (v:=.slice ad kids.len cap) rfl
   have hG3:=Zaa (hcc.out.2 G _ _ _ hGS hGb)
   have hs3:=hcc.out.1
   have ho3:=Zaa (Zcj ho.out hcc.out hp.out)
   have hkd3:=Zaa (Kq.kc hcc.out hk.out)
   replace hk3:=Zaa hk3
   replace hJ3:=Zaa hJ3
   clear hy hR cY
   gi_wp2_with (first|((with_reducible refine Zah 28 ?_);refine Zai 28 Zad rfl (ZiP cL) ?_))
   gi_loopw [17] (fun i wr=>∃ k xs,i=.int .i64 ((k:Nat):Int)/\k<=kids.len/\Hid (xs.map keyQ=(d,nd,kids.len)::kids.emsTo (d+1) k/\xs.length=1+kids.szTo k)/\Hid (J (pre++xs) wr)/\Hid (Kc S W3 wr)) (fun i _=>kids.len - (intOf i).toNat)
   case atStart=>exact⟨0,[⟨d,nd,ad,kids.len,cap,hPr.out⟩],rfl,Nat.zero_le _,⟨rfl,rfl⟩,hJ3,Kc.refl _ _⟩
   case round =>
    obtain⟨k,xs,rfl,hkl,hxs,hJr,hkr⟩:=hrel
    by_cases hlt:k<kids.len
    ·have i1:(k:Int)<(kids.len:Int):=by omega
     have hltH:=Zaa hlt
     have hor:=Zcj ho3.out hkr.out hp.out
     have hkdr:=Kq.kc hkr.out hkd3.out
     obtain⟨cv,czs,hcells,cho,chp,chk⟩:=Kq.nthQ hkdr k hlt
     obtain⟨cPr,cA⟩:=AllQ.nth hA.out k hlt
     have hsz1:=qszTo_le kids (k+1) (by omega)
     have hsz2:kids.szTo (k+1)=kids.szTo k+szQ (kids.nth k):=rfl
     have hem2:kids.emsTo (d+1) (k+1)=kids.emsTo (d+1) k++Zh1 (d+1) (kids.nth k):=rfl
     generalize kids.nth k=ch at hcells cho chp chk cPr cA hsz2 hem2
     obtain⟨cnd,ckids⟩:=ch
     simp only at hcells cho chp chk cPr cA
     have hb:∃ b,ad=some ⟨b,0,none⟩/\∀ j u,(qA cnd.o cnd.t cv)[j]?=some u->wr.cell? ⟨b,k * 3+j,none⟩=some u:=by
      rcases hor.2 with⟨h1,h2⟩|⟨g,cap',cur,hv,_⟩
      ·omega
      ·cases hv
       refine⟨g,rfl,fun j u hj=>?_⟩
       have:=hor.cells (g:=g) rfl _ _ (hcells j u hj)
       rwa [Zav,Nat.zero_add] at this
     obtain⟨b,rfl,hcell⟩:=hb
     obtain⟨ca,cc,hcv,_,_⟩:=Za8 cho
     subst hcv
     have hl28:=Zaa (ZeX hcell)
     have hsz3:szQ (nd,kids)=1+kids.sz:=rfl
     have hGr:=hkr.out.2 G _ _ _ hGS hG3.out
     have hYr:=hkr.out.2 Y _ _ _ hYS (hk3.out.2 Y _ _ _ hYS hY1.out)
     have hsr:=hkr.out.1
     have hxl:=hxs.out.2
     replace hem2:=Zaa hem2
     replace hcells:=Zaa hcells
     replace hcell:=Zaa hcell
     replace cho:=Zaa cho
     replace chp:=Zaa chp
     replace chk:=Zaa chk
     replace cPr:=Zaa cPr
     replace cA:=Zaa cA
     replace hor:=Zaa hor
     replace hkdr:=Zaa hkdr
     replace hGr:=Zaa hGr
     replace hYr:=Zaa hYr
     gi_wp2_with (first|((with_reducible refine Zah 30 ?_);refine Zai 30 Zad rfl (hl28.out) ?_)|((with_reducible refine ZbO ?_);refine ZbP Zad rfl (fun _=>rfl) (fun _=>rfl) ?_;intro g8 w8 hb8 B8 hg8;have hk8:=Zaa (Kc.below (S:=S) B8 (Nat.le_refl _));have cG:=Zal (hk8.out.2 G _ _ _ hGS hGr.out) 0 (v:=.func (.func 94) #[] #[.pointer (some ⟨Y,0,none⟩),.pointer (some ⟨G,0,none⟩)]) rfl;have hl8:=Zaa (ZaY hb8);replace hb8:=Zaa hb8;replace B8:=Zaa B8)|((with_reducible refine Zah 157 ?_);refine Zai 157 Zad rfl (ld157 cG) ?_)|((with_reducible refine Zah 30 ?_);refine Zai 30 Zad rfl (hl8.out) ?_))
     have hs8:=B8.out.size
     refine⟨trivial,fun h=>(by cases h),(ih.out cnd ckids (by omega) _ (d+1) w8 (pre++xs) _ czs cPr.out cA.out (Zcj cho.out hk8.out chp.out) chp.out (Kq.kc hk8.out chk.out) (hk8.out.2 Y _ _ _ hYS hYr.out) (hk8.out.2 G _ _ _ hGS hGr.out) (Za5 hAJ hJr.out B8.out) (by rw [List.length_append];omega) (by omega) (by omega)).mono ?_⟩
     rintro e W9 (⟨rfl,⟨ys,hys,hJ9⟩,hk9⟩|⟨rfl,p,hJx9⟩)
     ·have hJ10:Hid (J (pre++(xs++ys)) W9):=by
       have:=hJ9
       rw [List.append_assoc] at this
       exact this
      have hk10:Hid (Kc S W3 W9):=hkr.out.trans (hk8.out.trans hk9)
      have hl10:Hid ((xs++ys).map keyQ=(d,nd,kids.len)::kids.emsTo (d+1) (k+1)/\(xs++ys).length=1+kids.szTo (k+1)):=by
       refine⟨?_,?_⟩
       ·rw [List.map_append,hxs.out.1,hys,hem2.out];rfl
       ·have hyl:ys.length=szQ (cnd,ckids):=by rw [<- Zj2 (cnd,ckids) (d+1),<- hys,List.length_map]
        rw [List.length_append,hxl,hyl,hsz2];omega
      clear hJ9 hk9 hys
      gi_wp2
      go_roundw
      case rel=>exact⟨k+1,xs++ys,by go_num,hltH.out,hl10,hJ10,hk10⟩
      case measure=>have:=hltH.out;simp [intOf];omega
     ·gi_wp2
      go_ret
      exact .inr ⟨rfl,_,hJx9⟩
    ·obtain rfl:k=kids.len:=by omega
     gi_wp2
     go_ret
     exact .inl ⟨rfl,⟨xs,by rw [hxs.out.1,ZfJ];rfl,hJr.out⟩,hcc.out.trans hkr.out⟩
  ·gi_wp2
   go_ret
   exact .inr ⟨rfl,_,hJx3⟩
set_option maxRecDepth 100000 in
theorem Zfl {Pr:Nat->Qn->Nat->Prop}(S:Nat->Prop)(n:Nat)(B:Nat)(t:Qn × Qf)(v:Value)(zs:List Value)(w:World)(hB:w.heap[B]?=some (.cells (qA t.1.o t.1.t v) 30 (0,0)))(ho:w.ownsRow 0 30 3 v t.2.len zs)(hp:∀ b,v.ownBlock=some b->¬ S b)(hk:Kq w (fun b=>¬ S b) t.2 zs)(hPr:Pr 1 t.1 t.2.len)(hA:AllQ Pr 2 t.2)(hsz:szQ t<=900000)(hBS:¬ S B)(hS:∀ k,w.heap.size<=k->¬ S k) :
  SeqStopsK Fence.wide n Tryz.prog 93 #[.pointer (some ⟨B,0,none⟩)] (encW (Pr:=Pr)) (Kc S) (fun xs=>xs.map keyQ=Zh1 1 t) (fun _=>True) (szQ t) w:=fun l J Jx W hW hAJ hAJx hYY h0=>by
 obtain⟨nd,kids⟩:=t
 simp only at *
 have hmf:∀ (fn:Fn) (first cap:Array Value) (w:World),(Instr.makeFunc fn first cap).run Tryz.prog w=.ok (.func fn first cap) w:=fun _ _ _ _=>rfl
 have hBl:B<w.heap.size:=(Array.getElem?_eq_some_iff.1 hB).1
 have hsw:=hW.size
 have kW:Hid (Kc S w W):=Kc.below hW (Nat.le_refl _)
 obtain⟨va,vc,hv,_,_⟩:=Za8 ho
 subst hv
 replace hYY:Hid _:=Zaa hYY
 replace ho:=Zaa ho
 replace hp:=Zaa hp
 replace hk:=Zaa hk
 replace hPr:=Zaa hPr
 replace hA:=Zaa hA
 replace hS:=Zaa hS
 replace hW:=Zaa hW
 replace hAJh:=Zaa hAJ
 replace h0:=Zaa h0
 show CallsIn Fence.wide n Tryz.prog 93 #[.func (.yield l) #[] #[],.pointer (some ⟨B,0,none⟩)] W _
 refine callsIn_of_wp Tryz.func93 rfl trivial ?_ rfl
 simp only [Tryz.ntmps93,List.size_toArray,List.length_cons,List.length_nil,Nat.reduceAdd,Nat.reduceSub,Array.replicate_succ,Array.replicate_zero,List.push_toArray,List.append_toArray,List.nil_append,List.cons_append]
 gi_wp2_with (first|((with_reducible refine Zbh 157 ?_);refine ZkS Zad rfl ?_;intro Y w1 hbY B1 hgY;replace hbY:=Zaa hbY;replace B1:=Zaa B1)|((with_reducible refine ZfI 157 ?_);refine ZhM Zad ?_;intro G w2 hbG B2 hgG;replace hbG:=Zaa hbG;replace B2:=Zaa B2)|((with_reducible refine Zb5 157 ?_);refine Zni Zad hbG.out rfl rfl ?_;intro w3 hbG3 B3;have hs1:=B1.out.size;have hs2:=B2.out.size;have hl1:=(Array.getElem?_eq_some_iff.1 hbY.out).1;have hY2:Hid (w2.heap[Y]?=some (.cells #[.func (.yield l) #[] #[]] 157 (0,0))):=(B2.out.block Y hl1).trans hbY.out;have hY3:Hid (w3.heap[Y]?=some (.cells #[.func (.yield l) #[] #[]] 157 (0,0))):=(B3.block Y (by omega) (by omega)).trans hY2.out;have BW:Hid (Below W.heap.size W w3):=(B1.out.trans (B2.out.mono hs1)).trans (B3.below (by omega) (fun k e=>by omega));have k3:Hid (Kc S w w3):=kW.out.trans (Kc.below BW.out (Nat.le_refl _));have hB3:=k3.out.2 B _ _ _ hBS hB;have cG:=Zal hbG3 0 (v:=.func (.func 94) #[] #[.pointer (some ⟨Y,0,none⟩),.pointer (some ⟨G,0,none⟩)]) rfl;replace hbG3:=Zaa hbG3;have hl28:=Zaa (ZaY hB3);replace hB3:=Zaa hB3;replace B3:=Zaa B3)|((with_reducible refine Zah 157 ?_);refine Zai 157 Zad rfl (ld157 cG) ?_)|((with_reducible refine Zah 30 ?_);refine Zai 30 Zad rfl (hl28.out) ?_))
 have hs3:=BW.out.size
 refine⟨trivial,fun h=>(by cases h),(Znj S l Y G w.heap.size J Jx W.heap.size hAJ (szQ (nd,kids)) (fun m pre x W1 hj hl=>ZbW (hYY.out pre x W1 hj hl)) (hS.out Y (by omega)) (hS.out G (by omega)) hS.out (szQ (nd,kids)) nd kids (Nat.le_refl _) _ 1 w3 [] _ zs hPr.out hA.out (Zcj ho.out k3.out hp.out) hp.out (Kq.kc k3.out hk.out) hY3.out hbG3.out (Za5 hAJ h0.out BW.out) (by simp) (by omega) (by omega)).mono ?_⟩
 rintro e W9 (⟨rfl,⟨ys,hys,hJ9⟩,hk9⟩|⟨rfl,p,hJx9⟩)
 ·replace hJ9:=Zaa hJ9
  clear hk9
  gi_wp2
  go_end0
  exact⟨⟨_,rfl⟩,.inl ⟨ys,hys,by simpa using hJ9.out⟩⟩
 ·replace hJx9:=Zaa hJx9
  gi_wp2
  go_end0
  exact⟨⟨_,rfl⟩,.inr ⟨p,trivial,hJx9.out⟩⟩
end G
namespace G
open Go.RowKit Go.Shelf
attribute [local go_sem] Oper.semAt_some
def fitQ (o:Int)(t:Tx)(m:Nat):Prop:=((o=0\/o=1)/\t=[]/\m=0)\/(o=2/\t.length=3/\m=0)\/((o=3\/o=4)/\t=[])
theorem str_ne {t:Tx}(h:t≠[]):¬ (⟨t.toArray⟩:ByteArray).toList=[]:=fun e=>by
 rw [ByteArray.toList_eq] at e
 exact h (by simpa using e)
set_option maxRecDepth 100000 in
theorem Zgz (o:Int)(t:Tx)(va:Option Addr)(m c:Nat)(h:¬ fitQ o t m)(w:World) :
  Calls Tryz.prog 46 #[qV o t (.slice va m c)] w fun e w'=>e=.returned (.bool false)/\Below w.heap.size w w':=by
 have H:=St.start Nope w
 unfold fitQ at h
 obtain⟨S,hS⟩:∃ S:ByteArray,S=⟨t.toArray⟩:=⟨_,rfl⟩
 have hSz:S.size=t.length:=by rw [hS];simp [ByteArray.size]
 by_cases h0:o=0\/o=1
 ·by_cases ht:t=[]
  ·subst ht
   have hm:¬ (m:Int)=0:=fun e=>h (.inl ⟨h0,rfl,by omega⟩)
   have hm2:¬ m=0:=by omega
   rcases h0 with rfl|rfl
   ·go_enter Tryz.func46,Tryz.ntmps46
    go_wp2_with ((with_reducible refine Zar 30 ?_);refine ZaK H rfl ?_;clear H;intro g1 w1 H q1 q2;have c0:=H.cell 0 0 rfl (v:=.int .i64 0) rfl;have c1:=H.cell 0 1 rfl (v:=.string ⟨#[]⟩) rfl;have c2:=H.cell 0 2 rfl (v:=.slice va m c) rfl;have hb:=Zaa H.below;clear H)
    go_ret
    first|exact⟨rfl,hb.out⟩|exact⟨by simp;omega,hb.out⟩|exact⟨by simp [hne],hb.out⟩
   ·go_enter Tryz.func46,Tryz.ntmps46
    go_wp2_with ((with_reducible refine Zar 30 ?_);refine ZaK H rfl ?_;clear H;intro g1 w1 H q1 q2;have c0:=H.cell 0 0 rfl (v:=.int .i64 1) rfl;have c1:=H.cell 0 1 rfl (v:=.string ⟨#[]⟩) rfl;have c2:=H.cell 0 2 rfl (v:=.slice va m c) rfl;have hb:=Zaa H.below;clear H)
    go_ret
    first|exact⟨rfl,hb.out⟩|exact⟨by simp;omega,hb.out⟩|exact⟨by simp [hne],hb.out⟩
  ·have hne:¬ S.toList=[]:=by rw [hS];exact str_ne ht
   rcases h0 with rfl|rfl
   ·go_enter Tryz.func46,Tryz.ntmps46
    go_wp2_with ((with_reducible refine Zar 30 ?_);refine ZaK H rfl ?_;clear H;intro g1 w1 H q1 q2;have c0:=H.cell 0 0 rfl (v:=.int .i64 0) rfl;have c1:=H.cell 0 1 rfl (v:=.string ⟨t.toArray⟩) rfl;have c2:=H.cell 0 2 rfl (v:=.slice va m c) rfl;rw [<- hS] at c1;replace hS:=Zaa hS;have hb:=Zaa H.below;clear H)
    go_ret
    first|exact⟨rfl,hb.out⟩|exact⟨by simp;omega,hb.out⟩|exact⟨by simp [hne],hb.out⟩
   ·go_enter Tryz.func46,Tryz.ntmps46
    go_wp2_with ((with_reducible refine Zar 30 ?_);refine ZaK H rfl ?_;clear H;intro g1 w1 H q1 q2;have c0:=H.cell 0 0 rfl (v:=.int .i64 1) rfl;have c1:=H.cell 0 1 rfl (v:=.string ⟨t.toArray⟩) rfl;have c2:=H.cell 0 2 rfl (v:=.slice va m c) rfl;rw [<- hS] at c1;replace hS:=Zaa hS;have hb:=Zaa H.below;clear H)
    go_ret
    first|exact⟨rfl,hb.out⟩|exact⟨by simp;omega,hb.out⟩|exact⟨by simp [hne],hb.out⟩
 ·have n0:¬ o=0:=fun e=>h0 (.inl e)
  have n1:¬ o=1:=fun e=>h0 (.inr e)
  by_cases h2:o=2
  ·subst h2
   by_cases h3:t.length=3
   ·have hm:¬ (m:Int)=0:=fun e=>h (.inr (.inl ⟨rfl,h3,by omega⟩))
    have hm2:¬ m=0:=by omega
    rw [h3] at hSz
    go_enter Tryz.func46,Tryz.ntmps46
    go_wp2_with ((with_reducible refine Zar 30 ?_);refine ZaK H rfl ?_;clear H;intro g1 w1 H q1 q2;have c0:=H.cell 0 0 rfl (v:=.int .i64 2) rfl;have c1:=H.cell 0 1 rfl (v:=.string ⟨t.toArray⟩) rfl;have c2:=H.cell 0 2 rfl (v:=.slice va m c) rfl;rw [<- hS] at c1;replace hS:=Zaa hS;have hb:=Zaa H.below;clear H)
    go_ret
    first|exact⟨rfl,hb.out⟩|exact⟨by simp;omega,hb.out⟩|exact⟨by simp [hne],hb.out⟩
   ·have hz:¬ (S.size:Int)=3:=by omega
    have hz2:¬ S.size=3:=by omega
    replace hSz:=Zaa hSz
    go_enter Tryz.func46,Tryz.ntmps46
    go_wp2_with ((with_reducible refine Zar 30 ?_);refine ZaK H rfl ?_;clear H;intro g1 w1 H q1 q2;have c0:=H.cell 0 0 rfl (v:=.int .i64 2) rfl;have c1:=H.cell 0 1 rfl (v:=.string ⟨t.toArray⟩) rfl;have c2:=H.cell 0 2 rfl (v:=.slice va m c) rfl;rw [<- hS] at c1;replace hS:=Zaa hS;have hb:=Zaa H.below;clear H)
    go_ret
    first|exact⟨rfl,hb.out⟩|exact⟨by simp;omega,hb.out⟩|exact⟨by simp [hne],hb.out⟩
  ·by_cases h3:o=3\/o=4
   ·have ht:t≠[]:=fun e=>h (.inr (.inr ⟨h3,e⟩))
    have hne:¬ S.toList=[]:=by rw [hS];exact str_ne ht
    rcases h3 with rfl|rfl
    ·go_enter Tryz.func46,Tryz.ntmps46
     go_wp2_with ((with_reducible refine Zar 30 ?_);refine ZaK H rfl ?_;clear H;intro g1 w1 H q1 q2;have c0:=H.cell 0 0 rfl (v:=.int .i64 3) rfl;have c1:=H.cell 0 1 rfl (v:=.string ⟨t.toArray⟩) rfl;rw [<- hS] at c1;replace hS:=Zaa hS;have hb:=Zaa H.below;clear H)
     go_ret
     first|exact⟨rfl,hb.out⟩|exact⟨by simp;omega,hb.out⟩|exact⟨by simp [hne],hb.out⟩
    ·go_enter Tryz.func46,Tryz.ntmps46
     go_wp2_with ((with_reducible refine Zar 30 ?_);refine ZaK H rfl ?_;clear H;intro g1 w1 H q1 q2;have c0:=H.cell 0 0 rfl (v:=.int .i64 4) rfl;have c1:=H.cell 0 1 rfl (v:=.string ⟨t.toArray⟩) rfl;rw [<- hS] at c1;replace hS:=Zaa hS;have hb:=Zaa H.below;clear H)
     go_ret
     first|exact⟨rfl,hb.out⟩|exact⟨by simp;omega,hb.out⟩|exact⟨by simp [hne],hb.out⟩
   ·have n3:¬ o=3:=fun e=>h3 (.inl e)
    have n4:¬ o=4:=fun e=>h3 (.inr e)
    go_enter Tryz.func46,Tryz.ntmps46
    go_wp2_with ((with_reducible refine Zar 30 ?_);refine ZaK H rfl ?_;clear H;intro g1 w1 H q1 q2;have c0:=H.cell 0 0 rfl (v:=.int .i64 o) rfl;have hb:=Zaa H.below;clear H)
    go_ret
    first|exact⟨rfl,hb.out⟩|exact⟨by simp;omega,hb.out⟩|exact⟨by simp [hne],hb.out⟩
end G
namespace G
open Go.RowKit Go.Shelf
attribute [local go_sem] Oper.semAt_some
theorem one34:∀ w,(sizeOf 34).run Tryz.prog w=.ok 1 w:=fun w=>by kernel_rfl
theorem ld34 {w:World}{ad:Addr}{v:Value}(h:w.cell? ad=some v):(loadVar 34 ad).run Tryz.prog w=.ok v w:=by
 have ha:∀ w,(isAgg 34).run Tryz.prog w=.ok false w:=fun w=>by kernel_rfl
 simp [loadVar,ha,go_sem,h]
section
variable {F:Fence}{n:Nat}{w w':World}{ops:Array Oper}{rest:List Oper}{a:Act}{Q:Exit->Act->World->Prop}{dst:Option Nat}{x y:Operand}{ty:TypeId}{pos:String}{after:Array Edge}
variable {S:Nat->Prop}{w0:World}{L:List Ent}
theorem ZiW (w:World):(execOp a.eval ⟨dst,.alloc 34,ty,pos,after,none⟩).run Tryz.prog w=.ok (.value (.pointer (some ⟨w.heap.size,0,none⟩))) (w.alloc (.cells #[.int .i64 0] 34)):=by
 unfold execOp
 kernel_rfl
theorem run_st34 {w:World}{g:Nat}{u:Value}{v:Int}(h:w.heap[g]?=some (.cells #[u] 34 (0,0))):(storeVar 34 ⟨g,0,none⟩ (.int .i64 v)).run Tryz.prog w=.ok () (w.setCell ⟨g,0,none⟩ (.int .i64 v)):=by
 have hc:=Zal h 0 (v:=u) rfl
 have hf:=frozen_of_row w g 0 _ 34 h
 have e:(storeCells ⟨g,0,none⟩ [.int .i64 v]).run Tryz.prog w=.ok () (w.setCell ⟨g,0,none⟩ (.int .i64 v)):=by simp [storeCells,go_sem,stored,hc,hf]
 have e4:(Value.int .i64 v).cells=#[.int .i64 v]:=rfl
 unfold storeVar
 simp only [Sem.run_bind,one34,Result.andThen_ok,e4]
 simpa using e
theorem Zex (hF:∀ f,F.fn f){g:Nat}{u:Value}{v:Int}(hg:w.heap[g]?=some (.cells #[u] 34 (0,0)))(hx:a.eval x=.pointer (some ⟨g,0,none⟩))(hy:a.eval y=.int .i64 v)(h:∀ w',w'.heap[g]?=some (.cells #[.int .i64 v] 34 (0,0))->But (fun k=>k=g) w w'->wpListIn F n Tryz.prog ops Q rest a w'):wpListIn F n Tryz.prog ops Q (⟨none,.store 34 x y,ty,pos,after,none⟩::rest) a w:=by
 refine Za4 (w':=w.setCell ⟨g,0,none⟩ (.int .i64 v)) hF (fun c=>nofun) ?_ (h _ ?_ ?_)
 ·unfold execOp
  simp only [hx,hy,Instr.storeAt,Instr.sureAddr,Sem.run_bind,Sem.run_pure,Result.andThen_ok,run_st34 hg]
 ·exact heap_setCell_same w g 0 _ 34 _ hg
 ·exact⟨rfl,rfl,rfl,by simp [World.setCell],fun k hk hn=>Below.heap_setCell w ⟨g,0,none⟩ _ k hn⟩
theorem Znk (hF:∀ f,F.fn f)(H:St S w0 w L){m:Int}{s:Tx}{l:Value}(hx:a.eval x=qV m s l)(h:∀ g w',St S w0 w' ((true,g,30,qA m s l)::L)->w0.heap.size<=g->wpListIn F n Tryz.prog ops Q rest (a.put dst (.pointer (some ⟨g,0,none⟩))) w'):wpListIn F n Tryz.prog ops Q (⟨dst,.box 30 x,ty,pos,after,none⟩::rest) a w :=
 ZaF hF (fun c=>nofun) (ZeW _ _ _ _ _ _ m s l hx w) (h _ _ (H.alloc 30 _) H.but.size)
theorem ZiX (hF:∀ f,F.fn f)(H:St S w0 w L)(h:∀ g w',St S w0 w' ((true,g,34,#[.int .i64 0])::L)->w0.heap.size<=g->wpListIn F n Tryz.prog ops Q rest (a.put dst (.pointer (some ⟨g,0,none⟩))) w'):wpListIn F n Tryz.prog ops Q (⟨dst,.alloc 34,ty,pos,after,none⟩::rest) a w :=
 ZaF hF (fun c=>nofun) (ZiW w) (h _ _ (H.alloc 34 _) H.but.size)
theorem ZkT (i:Nat)(hF:∀ f,F.fn f)(H:St S w0 w L){b:Bool}{g:Nat}{m:Int}{s:Tx}{l:Value}(h:L[i]?=some (b,g,30,qA m s l))(hx:a.eval x=.pointer (some ⟨g,0,none⟩))(k:wpListIn F n Tryz.prog ops Q rest (a.put dst (qV m s l)) w):wpListIn F n Tryz.prog ops Q (⟨dst,.load 30 x,ty,pos,after,none⟩::rest) a w:=Zai 30 hF hx (ZaY (H.get i h)) k
end
section
variable {F:Fence}{n:Nat}{w:World}{ops:Array Oper}{rest:List Oper}{a:Act}{Q:Exit->Act->World->Prop}{dst:Option Nat}{ty:TypeId}{pos:String}{after:Array Edge}
theorem atI_G {op:Op}{gd:Nat × Bool}(h:wpListIn F n Tryz.prog ops Q (⟨dst,op,ty,pos,after,some gd⟩::rest) a w):wpListIn F n Tryz.prog ops Q (⟨dst,op,ty,pos,after,some gd⟩::rest) a w:=h
theorem ZhN {op:Op}{gd:Nat × Bool}(hF:∀ f,F.fn f)(hw:Region.wanted ⟨dst,op,ty,pos,after,some gd⟩ (yielded ops a.tmps)=false)(k:wpListIn F n Tryz.prog ops Q rest (a.put dst undef) w):wpListIn F n Tryz.prog ops Q (⟨dst,op,ty,pos,after,some gd⟩::rest) a w:=by
 refine wpListIn_step fun K hK=>?_
 rw [if_neg (by rw [hw];simp)]
 exact⟨fun f _=>hF f,hK _ _ k⟩
end
structure CkI (w0:World) (gn gr:Nat) (k:Nat) (v:Int) (W:World):Prop where
 n:W.heap[gn]?=some (.cells #[.int .i64 (k:Int)] 3 (0,0))
 r:W.heap[gr]?=some (.cells #[.int .i64 v] 34 (0,0))
 bel:Below w0.heap.size w0 W
theorem CkI.own {w0:World}{gn gr k B:Nat}{v:Int}{W W':World}{row:Option Nat}(h:CkI w0 gn gr k v W)(hB:w0.heap.size<=B)(hg:W.grownBy W' row)(hr:∀ r,row=some r->B<=r/\∃ o:Obj,W.heap[r]?=some o/\o.isCells=false):CkI w0 gn gr k v W':=by
 have ne:∀ g xs t,W.heap[g]?=some (.cells xs t (0,0))->some g≠row:=fun g xs t h e=>by
  obtain⟨_,o,ho,hc⟩:=hr g e.symm
  rw [h] at ho
  cases ho
  cases hc
 refine⟨(hg.block gn (Array.getElem?_eq_some_iff.1 h.n).1 (ne _ _ _ h.n)).trans h.n,(hg.block gr (Array.getElem?_eq_some_iff.1 h.r).1 (ne _ _ _ h.r)).trans h.r,h.bel.grown hg h.bel.size (fun k e=>by have:=(hr k e).1;omega)⟩
def ZkU (q:Qy):Prop:=∀ y ∈ Zh1 1 (⟨q.op,q.tx⟩,q.l),y.1<=8/\fitQ y.2.1.o y.2.1.t y.2.2
def mayQ (q:Qy):Prop:=ZkU q/\q.sz<=4096
set_option maxRecDepth 100000 in
theorem check_in (n:Nat)(hn:3<=n)(q:Qy)(P:Nat->Prop)(x:Value)(w:World)(T:QyV w P x q)(hsz:q.sz<=900000) :
  CallsIn Fence.wide n Tryz.prog 17 #[x] w fun e w'=>∃ r:Int,e=.returned (.int .i64 r)/\((mayQ q/\r=0)\/(¬ mayQ q/\r=2))/\Below w.heap.size w w':=by
 obtain⟨v,zs,rfl,ho,hp,hk⟩:=T
 obtain⟨va,vc,hv,_,_⟩:=Za8 ho
 subst hv
 obtain⟨qo,qt,kids⟩:=q
 simp only at *
 obtain⟨nd,hnd⟩:∃ nd:Qn,nd=⟨qo,qt⟩:=⟨_,rfl⟩
 obtain⟨rfl,rfl⟩:qo=nd.o/\qt=nd.t:=by rw [hnd];exact⟨rfl,rfl⟩
 clear hnd
 have hsz2:szQ (nd,kids)<=900000:=hsz
 have hold:Hid (Kq w (fun b=>b<w.heap.size) kids zs):=hk.mono (fun b hb _=>hb)
 have hown:Hid (∀ b,(Value.slice va kids.len vc).ownBlock=some b->b<w.heap.size):=fun b hb=>(Zaz ho hb).2
 have hPr:Hid ((1,nd,kids.len) ∈ Zh1 1 (nd,kids)):=by show _ ∈ _;simp [Zh1]
 have hA:Hid (AllQ (fun d n len=>(d,n,len) ∈ Zh1 1 (nd,kids)) 2 kids):=Zgy kids 2 (fun y hy=>by simp [Zh1,hy])
 replace ho:=Zaa ho
 clear hk hp
 have H:=St.start Nope w
 have m0:=trivial
 refine callsIn_of_wp_marks Tryz.func17 rfl trivial ?_ rfl
 simp only [Tryz.ntmps17,List.size_toArray,List.length_cons,List.length_nil,Nat.reduceAdd,Nat.reduceSub,Array.replicate_succ,Array.replicate_zero,List.push_toArray,List.append_toArray,List.nil_append,List.cons_append]
 gi_wp2_with (first|((with_reducible refine Zbh 30 ?_);refine Znk Zad H rfl ?_;clear H;intro g1 w1 H hg1)|((with_reducible refine ZaO 34 ?_);refine ZiX Zad H ?_;clear H;intro gr w2 H hgr)|((with_reducible refine ZaO 3 ?_);refine Zcs Zad H ?_;clear H;intro g w2 H hg)|((with_reducible refine Zay 3 ?_);refine Zir 0 Zad H rfl rfl rfl ?_;clear H;intro w3 H)|((with_reducible refine Zah 30 ?_);refine ZkT 2 Zad H rfl rfl ?_))
 have hln3:=H.lti 0 rfl
 have hlr3:=H.lti 1 rfl
 refine⟨trivial,fun h=>(by cases h),(ZkR _ _ _ _ _).mono ?_⟩
 rintro e w5 ⟨gB,rfl,hbB,B5,hgB⟩
 replace H:=H.call B5 (Nat.le_refl _)
 have hb5:=H.below
 have hs5:=hb5.size
 have hn5:=H.get 0 rfl
 have hr5:=H.get 1 rfl
 have hln:=H.lti 0 rfl
 have hlr:=H.lti 1 rfl
 have hne:Hid (g≠gr):=fun e=>by
  have:=H.nd
  simp [e] at this
 have hlB:=(Array.getElem?_eq_some_iff.1 hbB).1
 have hgBn:Hid (gB≠g/\gB≠gr):=⟨by omega,by omega⟩
 have hkw:Hid (Kc (fun k=>k=g\/k=gr) w w5):=Kc.below hb5 (Nat.le_refl _)
 have hst:=Zfl (Pr:=fun d n len=>(d,n,len) ∈ Zh1 1 (nd,kids)) (fun k=>k=g\/k=gr) (n - 1) gB (nd,kids) (.slice va kids.len vc) zs w5 hbB (Zcj ho.out hkw.out (fun b hb=>by have:=hown.out b hb;omega)) (fun b hb=>by have:=hown.out b hb;omega) (Kq.kc hkw.out (hold.out.mono (fun b _ h=>by omega))) hPr.out hA.out (by omega) (by have:=hgBn.out;omega) (fun k hk=>by omega)
 have I0:CkI w g gr 0 0 w5:=⟨hn5,hr5,hb5⟩
 gi_wp2
 refine wpIn_rangeFunc_ownH rfl (by omega) (gf:=93) (lb:=#[.pointer (some ⟨gB,0,none⟩)]) rfl (Zad 93) (enters_of Tryz.func93 (by kernel_rfl) rfl)
  hst (fun h k=>h.trans k) (fun W l o o' hl ho hc _=>⟨by simp [World.putObj],fun k cs t fr hn e=>?kb⟩) (Below.refl _ w5) (fun _=>rfl)
  (fun pre W=>CkI w g gr pre.length 0 W/\pre.length<=4096/\∀ x ∈ pre,x.d<=8/\fitQ x.nd.o x.nd.t x.len)
  (fun c pre W=>c=.ret/\¬ mayQ ⟨nd.o,nd.t,kids⟩/\∃ k,CkI w g gr k 2 W)
  (fun pre W W' row hs hg hr=>⟨hs.1.own hs5 hg hr,hs.2⟩)
  (fun c pre W W' row hs hg hr=>⟨hs.1,hs.2.1,by obtain⟨k,h⟩:=hs.2.2;exact⟨k,h.own hs5 hg hr⟩⟩)
  ⟨I0,Nat.zero_le _,fun x hx=>(by cases hx)⟩
  (fun x a' W=>∃ g5,a'={ tmps:=#[qV nd.o nd.t (.slice va kids.len vc),.pointer (some ⟨g1,0,none⟩),.pointer (some ⟨gr,0,none⟩),.pointer (some ⟨g,0,none⟩),.int .i64 (x.d:Int),.pointer (some ⟨g5,0,none⟩),qV nd.o nd.t (.slice va kids.len vc),.func (.func 93) #[] #[.pointer (some ⟨gB,0,none⟩)],.int .i64 (x.d:Int),qV x.nd.o x.nd.t (.slice x.ad x.len x.cap),undef,undef,undef,undef,undef,undef,undef,undef,undef,undef,undef,undef,undef],defers:=[] }/\W.heap[g5]?=some (.cells (qA x.nd.o x.nd.t (.slice x.ad x.len x.cap)) 30 (0,0)))
  (fun x a' _ W W' row hs hg hr=>?ax) ?assign ?body ?done ?stop
 case kb =>
  rw [(grownBy_putObj' W l o').block k (Array.getElem?_eq_some_iff.1 e).1 (fun h=>by cases h;rw [ho] at e;cases e;cases hc)]
  exact e
 case ax =>
  obtain⟨g5,e1,e2⟩:=hs
  refine⟨g5,e1,(hg.block g5 (Array.getElem?_eq_some_iff.1 e2).1 (fun e=>?_)).trans e2⟩
  obtain⟨_,o,ho,hc⟩:=hr g5 e.symm
  rw [e2] at ho
  cases ho
  cases hc
 case assign =>
  intro l pre x W K hi hK
  simp only [encW,List.zip_toArray,List.zip_cons_cons,List.zip_nil_left,List.zip_nil_right,List.foldl_toArray,List.foldl_cons,List.foldl_nil,List.setIfInBounds_toArray,List.set_cons_zero,List.set_cons_succ]
  replace hK:=Zaa hK
  replace hi:=Zaa hi
  gi_wp2_with (first|((with_reducible refine ZbO ?_);refine ZbP (Zan l) rfl (fun _=>rfl) (fun _=>rfl) ?_;intro g5 w8 hb8 B8 hg8;replace hb8:=Zaa hb8;replace B8:=Zaa B8))
  have hbl:=hi.out.1.bel.size
  exact hK.out _ w8 (Za7 (Zbu B8.out (Nat.le_refl _) (fun _=>False)) (fun k h=>h.elim)) (Kc.below B8.out (Nat.le_refl _)) ⟨hi.out.1.own hs5 (ZbV B8.out) (fun r e=>(by cases e)),hi.out.2⟩ ⟨g5,rfl,hb8.out⟩
 case body =>
  rintro l pre x a' W hl ⟨r,hr⟩ ⟨hi,hall⟩ ⟨g5,rfl,hb5'⟩ hlt
  have hne5:g5≠g:=fun e=>by
   have h:=hi.n.symm.trans (e ▸ hb5')
   simp at h
  have cN:=Zal hi.n 0 (v:=.int .i64 (pre.length:Int)) rfl
  have hPx:=Zaa x.h
  have hNs:=Zaa hi.n
  have hp4:=hall.1
  replace hall:=Zaa hall.2
  by_cases hll:¬ pre.length<4096
  ·have hc2:(4096:Int)<(pre.length:Int)+1:=by omega
   have hbad:Hid (¬ mayQ ⟨nd.o,nd.t,kids⟩):=fun h=>by
    have h1:=h.2
    have h2:szQ (nd,kids)<=4096:=h1
    omega
   have hlr0:=(Array.getElem?_eq_some_iff.1 hi.r).1
   have hlg0:=(Array.getElem?_eq_some_iff.1 hi.n).1
   have hrh:=Zaa hi.r
   replace hi:=Zaa hi
   replace hb5':=Zaa hb5'
   replace hr:=Zaa hr
   gi_wp2_with (first|((with_reducible refine Zay 3 ?_);refine Zcv (Zan l) hNs.out rfl rfl ?_;intro w7 hn7 B7;have cN7:=Zal hn7 0 (v:=.int .i64 ((pre.length:Int)+1)) rfl;have hR7:=Zaa ((B7.block gr hlr0 (fun e=>hne.out e.symm)).trans hrh.out);replace hn7:=Zaa hn7;replace B7:=Zaa B7)|((with_reducible refine Zb5 34 ?_);refine Zex (Zan l) hR7.out rfl rfl ?_;intro w10 hn10 B10;replace hn10:=Zaa hn10;replace B10:=Zaa B10)|((with_reducible refine atI_G ?_);refine ZhN (Zan l) rfl ?_))
   have BB:But (fun k=>k=g\/k=gr) W w10:=(B7.out.mono (fun k h=>.inl h)).trans B10.out (fun i _ h=>.inr h)
   have hlg9:=(Array.getElem?_eq_some_iff.1 hn7.out).1
   have hbel7:=hi.out.bel.trans (B7.out.below hi.out.bel.size (fun k e=>by omega))
   refine⟨Za7 BB (fun k e=>.inl (by omega)),rfl,hbad.out,pre.length+1,⟨?_,hn10.out,hbel7.trans (B10.out.below hbel7.size (fun k e=>by omega))⟩⟩
   rw [B10.out.block g hlg9 hne.out,hn7.out]
   simp
  replace hll:pre.length<4096:=by omega
  have hc2:¬ ((4096:Int)<(pre.length:Int)+1):=by omega
  by_cases hd:x.d<=8
  ·have hd2:¬ ((8:Int)<(x.d:Int)):=by omega
   by_cases hfx:fitQ x.nd.o x.nd.t x.len
   ·have FI:=Zaa (fun w=>isFit_ok x.nd.o x.nd.t x.ad x.len x.cap hfx w)
    replace hfx:=Zaa hfx
    replace hi:=Zaa hi
    replace hb5':=Zaa hb5'
    replace hr:=Zaa hr
    gi_wp2_with (first|((with_reducible refine Zay 3 ?_);refine Zcv (Zan l) hNs.out rfl rfl ?_;intro w7 hn7 B7;have cN7:=Zal hn7 0 (v:=.int .i64 ((pre.length:Int)+1)) rfl;replace hn7:=Zaa hn7;have hb7:=Zaa ((B7.block g5 (Array.getElem?_eq_some_iff.1 hb5'.out).1 hne5).trans hb5'.out);replace B7:=Zaa B7)|((with_reducible refine ZcN 30 ?_);refine ZcM 30 (Zan l) rfl rfl (ZaY hb7.out) ?_))
    refine⟨trivial,fun h=>(by cases h),(callsIn_wide.2 (FI.out w7)).mono ?_⟩
    rintro e w9 ⟨rfl,B9⟩
    have B79:Hid (But (fun k=>k=g) W w9):=B7.out.trans (Zbu B9 (Nat.le_refl _) (fun _=>False)) (fun i _ h=>h.elim)
    replace B9:=Zaa B9
    gi_wp2
    have hlg:=(Array.getElem?_eq_some_iff.1 hn7.out).1
    have hlr9:=(Array.getElem?_eq_some_iff.1 hi.out.r).1
    refine⟨Za7 B79.out (fun k e=>.inl (by omega)),ZlW B79.out (fun k e=>.inl e),⟨?_,?_,?_⟩,by rw [List.length_append];simp;omega,fun y hy=>?_⟩
    ·rw [B9.out.block g hlg,hn7.out]
     simp
    ·rw [B79.out.block gr hlr9 (fun e=>hne.out e.symm),hi.out.r]
    ·exact hi.out.bel.trans (B79.out.below hi.out.bel.size (fun k e=>by omega))
    ·rcases List.mem_append.1 hy with h|h
     ·exact hall.out y h
     ·rw [List.mem_singleton.1 h];exact⟨hd,hfx.out⟩
   ·have FI:=Zaa (fun w=>Zgz x.nd.o x.nd.t x.ad x.len x.cap hfx w)
    have hbad:Hid (¬ mayQ ⟨nd.o,nd.t,kids⟩):=fun h=>hfx (h.1 _ hPx.out).2
    replace hfx:=Zaa hfx
    have hlr0:=(Array.getElem?_eq_some_iff.1 hi.r).1
    have hrh:=Zaa hi.r
    replace hi:=Zaa hi
    replace hb5':=Zaa hb5'
    replace hr:=Zaa hr
    gi_wp2_with (first|((with_reducible refine Zay 3 ?_);refine Zcv (Zan l) hNs.out rfl rfl ?_;intro w7 hn7 B7;have cN7:=Zal hn7 0 (v:=.int .i64 ((pre.length:Int)+1)) rfl;replace hn7:=Zaa hn7;have hb7:=Zaa ((B7.block g5 (Array.getElem?_eq_some_iff.1 hb5'.out).1 hne5).trans hb5'.out);replace B7:=Zaa B7)|((with_reducible refine ZcN 30 ?_);refine ZcM 30 (Zan l) rfl rfl (ZaY hb7.out) ?_))
    refine⟨trivial,fun h=>(by cases h),(callsIn_wide.2 (FI.out w7)).mono ?_⟩
    rintro e w9 ⟨rfl,B9⟩
    have B79:Hid (But (fun k=>k=g) W w9):=B7.out.trans (Zbu B9 (Nat.le_refl _) (fun _=>False)) (fun i _ h=>h.elim)
    have hlg:=(Array.getElem?_eq_some_iff.1 hn7.out).1
    have hN9:Hid (w9.heap[g]?=some (.cells #[.int .i64 ((pre.length:Int)+1)] 3 (0,0))):=by
     show w9.heap[g]?=_
     rw [B9.block g hlg,hn7.out]
    have hR9:Hid (w9.heap[gr]?=some (.cells #[.int .i64 0] 34 (0,0))):=by
     show w9.heap[gr]?=_
     rw [B79.out.block gr hlr0 (fun e=>hne.out e.symm),hrh.out]
    have hbel9:Hid (Below w.heap.size w w9):=hi.out.bel.trans (B79.out.below hi.out.bel.size (fun k e=>by omega))
    replace B9:=Zaa B9
    gi_wp2_with (first|((with_reducible refine Zb5 34 ?_);refine Zex (Zan l) hR9.out rfl rfl ?_;intro w10 hn10 B10;replace hn10:=Zaa hn10;replace B10:=Zaa B10))
    have BB:But (fun k=>k=g\/k=gr) W w10:=(B79.out.mono (fun k h=>.inl h)).trans B10.out (fun i _ h=>.inr h)
    have hlg9:=(Array.getElem?_eq_some_iff.1 hN9.out).1
    refine⟨Za7 BB (fun k e=>.inl (by omega)),rfl,hbad.out,pre.length+1,⟨?_,hn10.out,hbel9.out.trans (B10.out.below hbel9.out.size (fun k e=>by omega))⟩⟩
    rw [B10.out.block g hlg9 hne.out,hN9.out]
    simp
  ·have hd2:(8:Int)<(x.d:Int):=by omega
   have hbad:Hid (¬ mayQ ⟨nd.o,nd.t,kids⟩):=fun h=>hd (h.1 _ hPx.out).1
   have hlr0:=(Array.getElem?_eq_some_iff.1 hi.r).1
   have hlg0:=(Array.getElem?_eq_some_iff.1 hi.n).1
   have hrh:=Zaa hi.r
   replace hi:=Zaa hi
   replace hb5':=Zaa hb5'
   replace hr:=Zaa hr
   gi_wp2_with (first|((with_reducible refine Zay 3 ?_);refine Zcv (Zan l) hNs.out rfl rfl ?_;intro w7 hn7 B7;have cN7:=Zal hn7 0 (v:=.int .i64 ((pre.length:Int)+1)) rfl;have hR7:=Zaa ((B7.block gr hlr0 (fun e=>hne.out e.symm)).trans hrh.out);replace hn7:=Zaa hn7;replace B7:=Zaa B7)|((with_reducible refine Zb5 34 ?_);refine Zex (Zan l) hR7.out rfl rfl ?_;intro w10 hn10 B10;replace hn10:=Zaa hn10;replace B10:=Zaa B10)|((with_reducible refine atI_G ?_);refine ZhN (Zan l) rfl ?_))
   have BB:But (fun k=>k=g\/k=gr) W w10:=(B7.out.mono (fun k h=>.inl h)).trans B10.out (fun i _ h=>.inr h)
   have hlg9:=(Array.getElem?_eq_some_iff.1 hn7.out).1
   have hbel7:=hi.out.bel.trans (B7.out.below hi.out.bel.size (fun k e=>by omega))
   refine⟨Za7 BB (fun k e=>.inl (by omega)),rfl,hbad.out,pre.length+1,⟨?_,hn10.out,hbel7.trans (B10.out.below hbel7.size (fun k e=>by omega))⟩⟩
   rw [B10.out.block g hlg9 hne.out,hn7.out]
   simp
 case done =>
  rintro D xs W hD hS ⟨hI,hx4,hall⟩ hK
  have hyes:mayQ ⟨nd.o,nd.t,kids⟩:=⟨fun y hy=>by
   have hy2:y ∈ xs.map keyQ:=by rw [hS];exact hy
   obtain⟨z,hz,rfl⟩:=List.mem_map.1 hy2
   exact hall z hz,by
   have h1:=Zj2 (nd,kids) 1
   rw [<- hS,List.length_map] at h1
   show szQ (nd,kids)<=4096
   omega⟩
  have hl92:=(Array.getElem?_eq_some_iff.1 hI.r).1
  have hIH:=Zaa hI
  replace hK:=Zaa hK
  have hr:=Zaa hI.r
  have hbe:=Zaa hI.bel
  clear hI
  gi_wp2_with (first|((with_reducible refine Zb5 34 ?_);refine Zex Zad hr.out rfl rfl ?_;intro w7 hn7 B7;replace hn7:=Zaa hn7;replace B7:=Zaa B7))
  have hlD:=(Array.getElem?_eq_some_iff.1 hK.out).1
  have hK7:w7.heap[D]?=some (.deferred (some [])):=(B7.out.block D hlD (fun e=>by omega)).trans hK.out
  have B77:=grownBy_putObj' w7 D (.deferred none)
  have hn9:(w7.putObj D (.deferred none)).heap[gr]?=some (.cells #[.int .i64 0] 34 (0,0)):=(B77.block gr (by have:=B7.out.size;omega) (fun e=>by cases e;omega)).trans hn7.out
  refine⟨by simp,.inl ⟨_,_,rfl,run_takeDeferred hK7,?_⟩⟩
  refine⟨_,Zaf rfl _ _ gr _ rfl (ld34 (Zal hn9 0 rfl)),?_⟩
  exact⟨0,rfl,.inl ⟨hyes,rfl⟩,(hbe.out.trans (B7.out.below (by have:=hbe.out.size;omega) (fun k e=>by omega))).grown B77 (by have:=hbe.out.size;have:=B7.out.size;omega) (fun k e=>by cases e;omega)⟩
 case stop =>
  rintro D c pre W hD hc ⟨rfl,hbad,k,hI⟩ hK
  have hl92:=(Array.getElem?_eq_some_iff.1 hI.r).1
  have hIH:=Zaa hI
  replace hK:=Zaa hK
  clear hI
  gi_wp2
  have B77:=grownBy_putObj' W D (.deferred none)
  have hn9:(W.putObj D (.deferred none)).heap[gr]?=some (.cells #[.int .i64 2] 34 (0,0)):=(B77.block gr hl92 (fun e=>by cases e;omega)).trans hIH.out.r
  refine⟨by simp,.inl ⟨_,_,rfl,run_takeDeferred hK.out,?_⟩⟩
  refine⟨_,Zaf rfl _ _ gr (.int .i64 2) rfl (ld34 (Zal hn9 0 rfl)),?_⟩
  exact⟨2,rfl,.inr ⟨hbad,rfl⟩,hIH.out.bel.grown B77 hIH.out.bel.size (fun k e=>by cases e;omega)⟩
theorem ZhO (q:Qy)(P:Nat->Prop)(x:Value)(w:World)(T:QyV w P x q)(hsz:q.sz<=900000) :
  Calls Tryz.prog 17 #[x] w fun e w'=>∃ r:Int,e=.returned (.int .i64 r)/\((mayQ q/\r=0)\/(¬ mayQ q/\r=2))/\Below w.heap.size w w':=callsIn_wide.1 (check_in 5 (by omega) q P x w T hsz)
theorem check_any (q:Qy)(P:Nat->Prop)(x:Value)(w:World)(T:QyV w P x q)(hsz:q.sz<=4096) :
  Calls Tryz.prog 17 #[x] w fun e w'=>∃ r:Int,e=.returned (.int .i64 r)/\((ZkU q/\r=0)\/(¬ ZkU q/\r=2))/\Below w.heap.size w w':=(ZhO q P x w T (by omega)).mono (by
 rintro e w' ⟨r,he,hr,hb⟩
 exact⟨r,he,hr.imp (fun h=>⟨h.1.1,h.2⟩) (fun h=>⟨fun hc=>h.1 ⟨hc,hsz⟩,h.2⟩),hb⟩)
end G
namespace G
open Go.RowKit Go.Shelf Go.Maps Go.WideMaps
attribute [local go_sem] Oper.semAt_some
theorem clo97:Clo 97:=fun args w=>by kernel_rfl
theorem clo98:Clo 98:=fun args w=>by kernel_rfl
section
variable {S:Nat->Prop}{w0 w w':World}{L:List Ent}{ops:Array Oper}{rest:List Oper}{a:Act}{Q:Exit->Act->World->Prop}{dst:Option Nat}{x y:Operand}{ty:TypeId}{pos:String}{after:Array Edge}
theorem ZcX (H:St S w0 w L){m:Nat}(hx:a.eval x=.map (some m))(h:∀ g w',St S w0 w' ((true,g,102,#[.map (some m)])::L)->w0.heap.size<=g->w.heap.size<=g->wpList Tryz.prog ops Q rest (a.put dst (.pointer (some ⟨g,0,none⟩))) w'):wpList Tryz.prog ops Q (⟨dst,.box 102 x,ty,pos,after,none⟩::rest) a w:=by
 have e:(execOp a.eval ⟨dst,.box 102 x,ty,pos,after,none⟩).run Tryz.prog w=.ok (.value (.pointer (some ⟨w.heap.size,0,none⟩))) (w.alloc (.cells #[.map (some m)] 102)):=by
  unfold execOp
  simp only [hx]
  kernel_rfl
 exact ZaI e (h _ _ (H.alloc 102 _) H.but.size (Nat.le_refl _))
theorem ZiY (h:∀ g w',Below w.heap.size w w'->wpList Tryz.prog ops Q rest (a.put dst (.pointer (some ⟨g,0,none⟩))) w'):wpList Tryz.prog ops Q (⟨dst,.alloc 103,ty,pos,after,none⟩::rest) a w:=by
 have e:(execOp a.eval ⟨dst,.alloc 103,ty,pos,after,none⟩).run Tryz.prog w=.ok (.value (.pointer (some ⟨w.heap.size,0,none⟩))) (w.alloc (.cells #[] 103)):=by
  unfold execOp
  kernel_rfl
 exact ZaI e (h _ _ ((Below.refl _ w).alloc (Nat.le_refl _) _))
theorem wl_st103 {g:Nat}(hx:a.eval x=.pointer (some ⟨g,0,none⟩))(hy:a.eval y=.agg #[])(h:wpList Tryz.prog ops Q rest a w):wpList Tryz.prog ops Q (⟨none,.store 103 x y,ty,pos,after,none⟩::rest) a w:=by
 refine wpList_plain rfl fun K hK=>?_
 have e:(execOp a.eval ⟨none,.store 103 x y,ty,pos,after,none⟩).run Tryz.prog w=.ok .skip w:=by
  unfold execOp
  simp only [hx,hy]
  kernel_rfl
 unfold Oper.wp
 rw [e]
 exact hK _ _ h
end
def Zj3 (c:Nat)(caps:Array Value)(p:Qy->Bool)(P:Nat->Prop)(w:World)(q:Qy):Prop:=∀ w',Below w.heap.size w w'->∀ x,QyV w' P x q->Calls Tryz.prog c (#[x]++caps) w' fun e w2=>e=.returned (.bool (p q))/\Below w'.heap.size w' w2
theorem Zfm {p:Qy->Bool}{l:List Qy}{k:Nat}{q:Qy}(h:∀ j,j<k->∀ x,l[j]?=some x->p x=false)(hq:l[k]?=some q)(hp:p q=false):∀ j,j<k+1->∀ x,l[j]?=some x->p x=false:=fun j hj x hx=>by
 by_cases e:j=k
 ·subst e;rw [hq] at hx;cases hx;exact hp
 ·exact h j (by omega) x hx
set_option maxRecDepth 100000 in
theorem ZkV (f:Qf)(P:Nat->Prop)(v:Value)(zs:List Value)(c:Nat)(hc:Clo c)(caps:Array Value)(p:Qy->Bool)(w:World)(ho:w.ownsRow 0 30 3 v f.len zs)(hk:Kq w P f zs)(hln:f.len<=1000000)(ht:∀ q ∈ f.ls,Zj3 c caps p P w q) :
  Calls Tryz.prog 148 #[v,.func (.func c) #[] caps] w fun e w'=>∃ r:Int,e=.returned (.int .i64 r)/\decide (0<=r)=f.ls.any p/\Below w.heap.size w w':=by
 obtain⟨va,vc,rfl,_,_⟩:=Za8 ho
 have child:=Zaa (fun k q h=>Zgq ho hk k q h)
 replace ht:=Zaa ht
 have hlen:=ZdE f
 clear ho hk
 go_enter Tryz.func148,Tryz.ntmps148
 go_wp2
 go_loopw [8] (fun iv wr=>∃ k:Nat,k<=f.len/\iv=.int .i64 (k:Int)/\Hid (∀ j,j<k->∀ x,f.ls[j]?=some x->p x=false)/\Hid (Below w.heap.size w wr)) (fun iv _=>f.len - (intOf iv).toNat)
 case atStart=>exact⟨0,Nat.zero_le _,rfl,fun j hj=>by omega,Below.refl _ _⟩
 case round =>
  obtain⟨k,hk,rfl,hno,hb⟩:=hrel
  by_cases hlt:k<f.len
  ·have i3:(k:Int)<(f.len:Int):=by omega
   obtain⟨q,hq⟩:∃ q,f.ls[k]?=some q:=⟨_,List.getElem?_eq_getElem (by omega)⟩
   obtain⟨g,cv,hva,hone,hld⟩:=child.out k q hq
   subst hva
   obtain⟨hqv,hl⟩:=hld wr (Kr.below hb.out (Nat.le_refl _))
   have hl1:=Zaa hl
   have TT:=Zaa (ht.out q (List.mem_of_getElem? hq) wr hb.out _ hqv)
   have hqH:=Zaa hq
   clear hld hqv hl hq
   go_wp2_with (first|((with_reducible refine Zac 30 ?_);refine Zau 30 rfl hl1.out ?_)|((with_reducible refine Zdj ?_);refine Zic (u1:=qV q.op q.tx cv) rfl rfl hc ?_))
   refine TT.out.mono ?_
   rintro e w2 ⟨rfl,B2⟩
   have b2:=Zaa (hb.out.trans (B2.mono hb.out.size))
   refine⟨_,rfl,?_⟩
   clear B2 TT
   cases hp:p q with
   | true =>
    have hany:Hid (f.ls.any p=true):=List.any_eq_true.2 ⟨q,List.mem_of_getElem? hqH.out,hp⟩
    replace hp:=Zaa hp
    go_wp2
    go_ret
    exact⟨(k:Int),rfl,by rw [hany.out];simp,b2.out⟩
   | false =>
    have hno2:=Zaa (Zfm hno.out hqH.out hp)
    replace hp:=Zaa hp
    go_wp2
    go_roundw
    case rel=>exact⟨k+1,by omega,by simp,hno2,b2⟩
    case measure=>simp [intOf];omega
  ·obtain rfl:k=f.len:=by omega
   have i4:¬ ((f.len:Int)<(f.len:Int)):=by omega
   have hany:Hid (f.ls.any p=false):=by
    show _=_
    rw [List.any_eq_false]
    intro q hq
    obtain⟨j,hj⟩:=List.getElem?_of_mem hq
    rw [hno.out j (by have:=(List.getElem?_eq_some_iff.1 hj).1;omega) q hj]
    simp
   go_wp2
   go_ret
   exact⟨-1,rfl,by rw [hany.out];simp,hb.out⟩
set_option maxRecDepth 100000 in
theorem ZdP (f:Qf)(P:Nat->Prop)(v:Value)(zs:List Value)(c:Nat)(hc:Clo c)(caps:Array Value)(p:Qy->Bool)(w:World)(ho:w.ownsRow 0 30 3 v f.len zs)(hk:Kq w P f zs)(hln:f.len<=1000000)(ht:∀ q ∈ f.ls,Zj3 c caps p P w q) :
  Calls Tryz.prog 96 #[v,.func (.func c) #[] caps] w fun e w'=>e=.returned (.bool (f.ls.any p))/\Below w.heap.size w w':=by
 have IX:=Zaa (ZkV f P v zs c hc caps p w ho hk hln ht)
 clear ho hk ht
 go_enter Tryz.func96,Tryz.ntmps96
 go_wp2_with (go_at_call 148;refine IX.out.mono ?_)
 intro e w2 hR
 obtain⟨r,he,hr,B2⟩:=hR
 subst he
 have B2h:=Zaa B2
 have hrh:=Zaa hr
 clear hr B2 IX
 go_wp2
 go_ret
 refine⟨?_,B2h.out⟩
 rw [<- hrh.out]
 rfl
end G
namespace G
open Go.RowKit Go.Shelf Go.Maps Go.WideMaps
attribute [local go_sem] Oper.semAt_some
theorem Znl:∀ {f:Qf},f.ok->∀ q ∈ f.ls,q.ok
 | .nil,_,q,h=>by simp [Qf.ls] at h
 | .cons o t k r,h,q,hq=>by
  rcases List.mem_cons.1 hq with rfl|hq
  ·exact⟨h.1,h.2.1⟩
  ·exact Znl h.2.2 q hq
theorem sz_mems {f:Qf}{q:Qy}(h:q ∈ f.ls):q.sz<=f.sz:=by
 rw [<- sz_ls]
 exact ZiC Qy.sz h
def FitOk (q:Qy):Prop:=∀ (P:Nat->Prop)(x:Value)(w:World)(m:Nat)(had:List Tx),QyV w P x q->SetT w m had->Calls Tryz.prog 52 #[x,.map (some m)] w fun e w'=>e=.returned (.bool (q.fit had))/\Below w.heap.size w w'
set_option maxRecDepth 100000 in
theorem fit1_any (q:Qy)(h:FitOk q)(P:Nat->Prop)(b m:Nat)(had:List Tx)(w:World)(hb:w.heap[b]?=some (.cells #[.map (some m)] 102 (0,0)))(hs:SetT w m had):Zj3 97 #[.pointer (some ⟨b,0,none⟩)] (fun q=>!q.fit had) P w q:=by
 intro w' hw x hx
 show Calls Tryz.prog 97 #[x,.pointer (some ⟨b,0,none⟩)] w' _
 have F:=Zaa (fun (w2:World) (h2:Below w'.heap.size w' w2)=>h P x w2 m had (hx.kept (fun k _ hl=>h2.block k hl)) (hs.block ((h2.block m (by have:=hs.lt;have:=hw.size;omega)).trans (hw.block m hs.lt))))
 have hbw:w'.heap[b]?=some (.cells #[.map (some m)] 102 (0,0)):=(hw.block b (Array.getElem?_eq_some_iff.1 hb).1).trans hb
 have hbl:=(Array.getElem?_eq_some_iff.1 hbw).1
 obtain⟨v,zs,rfl,_⟩:=hx
 have hbwH:=Zaa hbw
 have H:=St.start Nope w'
 clear hs hb hbw h
 go_enter Tryz.func97,Tryz.ntmps97
 go_wp2_with (first|((with_reducible refine Zar 30 ?_);refine ZaK H rfl ?_;clear H;intro g1 w1 H q1 q2;have hb1:=H.below;have cb:=(hb1.cell (p:=⟨b,0,none⟩) hbl).trans (Zal hbwH.out 0 (v:=.map (some m)) rfl))|((with_reducible refine Zac 30 ?_);refine Zcd 0 H rfl rfl ?_)|((with_reducible refine Zac 102 ?_);refine Zau 102 rfl (ZeU cb) ?_)|(go_at_call 52;refine (F.out _ hb1).mono ?_))
 rintro e w2 ⟨rfl,B2⟩
 have b2:=Zaa (hb1.trans (B2.mono hb1.size))
 clear B2 F cb
 go_wp2
 go_ret
 exact⟨rfl,b2.out⟩
set_option maxRecDepth 100000 in
theorem fit2_any (q:Qy)(h:FitOk q)(P:Nat->Prop)(b m:Nat)(had:List Tx)(w:World)(hb:w.heap[b]?=some (.cells #[.map (some m)] 102 (0,0)))(hs:SetT w m had):Zj3 98 #[.pointer (some ⟨b,0,none⟩)] (fun q=>q.fit had) P w q:=by
 intro w' hw x hx
 show Calls Tryz.prog 98 #[x,.pointer (some ⟨b,0,none⟩)] w' _
 have F:=Zaa (fun (w2:World) (h2:Below w'.heap.size w' w2)=>h P x w2 m had (hx.kept (fun k _ hl=>h2.block k hl)) (hs.block ((h2.block m (by have:=hs.lt;have:=hw.size;omega)).trans (hw.block m hs.lt))))
 have hbw:w'.heap[b]?=some (.cells #[.map (some m)] 102 (0,0)):=(hw.block b (Array.getElem?_eq_some_iff.1 hb).1).trans hb
 have hbl:=(Array.getElem?_eq_some_iff.1 hbw).1
 obtain⟨v,zs,rfl,_⟩:=hx
 have hbwH:=Zaa hbw
 have H:=St.start Nope w'
 clear hs hb hbw h
 go_enter Tryz.func98,Tryz.ntmps98
 go_wp2_with (first|((with_reducible refine Zar 30 ?_);refine ZaK H rfl ?_;clear H;intro g1 w1 H q1 q2;have hb1:=H.below;have cb:=(hb1.cell (p:=⟨b,0,none⟩) hbl).trans (Zal hbwH.out 0 (v:=.map (some m)) rfl))|((with_reducible refine Zac 30 ?_);refine Zcd 0 H rfl rfl ?_)|((with_reducible refine Zac 102 ?_);refine Zau 102 rfl (ZeU cb) ?_)|(go_at_call 52;refine (F.out _ hb1).mono ?_))
 rintro e w2 ⟨rfl,B2⟩
 have b2:=Zaa (hb1.trans (B2.mono hb1.size))
 clear B2 F cb
 go_wp2
 go_ret
 exact⟨rfl,b2.out⟩
theorem ZiZ (l:List Qy)(had:List Tx):(!l.any (fun q=>!q.fit had))=l.all (fun q=>q.fit had):=by
 induction l with
 | nil=>rfl
 | cons a r ih=>simp only [List.any_cons,List.all_cons,Bool.not_or,Bool.not_not,ih]
theorem fit_op3 (t:Tx)(l:Qf)(had:List Tx):(⟨3,t,l⟩:Qy).fit had=l.ls.all (fun q=>q.fit had):=by
 show Zdv 3 t (l.fs had) had=_
 rw [Zhf]
 simp [Zdv]
theorem fit_op4 (t:Tx)(l:Qf)(had:List Tx):(⟨4,t,l⟩:Qy).fit had=l.ls.any (fun q=>q.fit had):=by
 show Zdv 4 t (l.fs had) had=_
 rw [Zhf]
 simp [Zdv]
set_option maxRecDepth 100000 in
theorem fits_any:∀ (N:Nat)(q:Qy),q.sz<=N->q.sz<=1000000->q.ok->FitOk q:=by
 intro N
 induction N with
 | zero=>intro q h;simp [Qy.sz] at h
 | succ N ih =>
  rintro⟨qo,qt,kids⟩ hN hsz hok P x w m had hx hs
  have ihH:Hid (∀ q ∈ kids.ls,FitOk q):=fun q hq=>by
   have h1:=sz_mems hq
   simp only [Qy.sz] at hN hsz
   exact ih q (by omega) (by omega) (Znl hok.2 q hq)
  have hln:kids.len<=1000000:=by have:=Zd8 kids;simp only [Qy.sz] at hsz;omega
  clear ih
  have hshape:=hok.1
  obtain⟨v,zs,rfl,ho,hp,hk⟩:=hx
  obtain⟨va,vc,rfl,_,_⟩:=Za8 ho
  simp only at *
  have H:=St.start Nope w
  have hsH:=Zaa hs
  have hml:=hs.lt
  have hown:=Zaa ho
  have hkk:=Zaa hk
  clear hs ho hk hok hp
  rcases hshape with⟨h01,rfl,rfl⟩|⟨rfl,ht3,rfl⟩|⟨h34,rfl⟩
  ·rcases h01 with rfl|rfl
   ·go_enter Tryz.func52,Tryz.ntmps52
    go_wp2_with (first|((with_reducible refine Zar 30 ?_);refine ZaK H rfl ?_;clear H;intro g1 w1 H q1 q2)|((with_reducible refine Zar 102 ?_);refine ZcX H rfl ?_;clear H;intro g2 w2 H q3 q4;have c0:=H.cell 1 0 rfl (v:=.int .i64 0) rfl;have hb2:=Zaa H.below;clear H))
    go_ret
    exact⟨rfl,hb2.out⟩
   ·go_enter Tryz.func52,Tryz.ntmps52
    go_wp2_with (first|((with_reducible refine Zar 30 ?_);refine ZaK H rfl ?_;clear H;intro g1 w1 H q1 q2)|((with_reducible refine Zar 102 ?_);refine ZcX H rfl ?_;clear H;intro g2 w2 H q3 q4;have c0:=H.cell 1 0 rfl (v:=.int .i64 1) rfl;have hb2:=Zaa H.below;clear H))
    go_ret
    exact⟨rfl,hb2.out⟩
  ·have hkey:=hkey9 (s:=qt) (by rw [ht3];unfold maxLen;omega)
   obtain⟨nn,D,hn1,hmap,hhas⟩:=hsH.out.map
   have hh:=hhas qt
   have hfit:Hid ((⟨2,qt,.nil⟩:Qy).fit had=decide (qt ∈ had)):=rfl
   have hmapH:=Zaa hmap
   clear hmap hhas
   go_enter Tryz.func52,Tryz.ntmps52
   go_wp2_with (first|((with_reducible refine Zar 30 ?_);refine ZaK H rfl ?_;clear H;intro g1 w1 H q1 q2)|((with_reducible refine Zar 102 ?_);refine ZcX H rfl ?_;clear H;intro g2 w2 H q3 q4;have hb2:=Zaa H.below;have hown2:=Zaa (Zcz hmapH.out (hb2.out.block m hml)))|((with_reducible refine Zac 3 ?_);refine Zax 1 0 H (v:=.int .i64 2) rfl rfl rfl ?_)|((with_reducible refine Zac 102 ?_);refine Zau 102 rfl (ZeU (H.cell 0 0 rfl rfl)) ?_)|((with_reducible refine Zac 9 ?_);refine Zau 9 rfl (ld9 (H.cell 1 1 rfl (v:=encStr qt) rfl)) ?_)|(at_lookup;refine wpList_lookup_own_unit _ rfl _ _ 102 rfl 9 103 law9 Tryz.underlying102 (ZeR _) m nn D rfl hown2.out _ (txkey qt) rfl hkey ?_;rw [hh])|((with_reducible refine Zae 103 ?_);refine ZiY ?_;intro g7 w7 B7;have hb7:=Zaa (hb2.out.trans (B7.mono hb2.out.size));clear H)|((with_reducible refine Zab 103 ?_);refine wl_st103 rfl rfl ?_))
   go_ret
   exact⟨by rw [hfit.out];rfl,hb7.out⟩
  ·rcases h34 with rfl|rfl
   ·have hfit:Hid ((⟨3,[],kids⟩:Qy).fit had=!kids.ls.any (fun q=>!q.fit had)):=by
     show _=_
     rw [ZiZ,fit_op3]
    go_enter Tryz.func52,Tryz.ntmps52
    go_wp2_with (first|((with_reducible refine Zar 30 ?_);refine ZaK H rfl ?_;clear H;intro g1 w1 H q1 q2)|((with_reducible refine Zar 102 ?_);refine ZcX H rfl ?_;clear H;intro g2 w2 H q3 q4;have hb2:=H.below;have CC:=Zaa (ZdP kids P _ zs 97 clo97 #[.pointer (some ⟨g2,0,none⟩)] (fun q=>!q.fit had) w2 (ZaC hown.out (fun k hk=>hb2.block k (Zaz hown.out hk).2)) (hkk.out.kept (fun b _ hl=>hb2.block b hl)) hln (fun q hq=>fit1_any q (ihH.out q hq) P g2 m had w2 (H.get 0 rfl) (hsH.out.block (hb2.block m hml)))))|((with_reducible refine Zac 3 ?_);refine Zax 1 0 H (v:=.int .i64 3) rfl rfl rfl ?_)|((with_reducible refine Zac 28 ?_);refine Zev 1 2 H (v:=.slice va kids.len vc) rfl rfl rfl ?_)|(go_at_call 96;refine CC.out.mono ?_))
    rintro e w4 ⟨rfl,B4⟩
    have b4:=Zaa (hb2.trans (B4.mono hb2.size))
    clear B4 CC H
    generalize kids.ls.any (fun q=>!q.fit had)=bb at *
    go_wp2
    go_ret
    exact⟨by rw [hfit.out];rfl,b4.out⟩
   ·have hfit:Hid ((⟨4,[],kids⟩:Qy).fit had=kids.ls.any (fun q=>q.fit had)):=fit_op4 _ _ _
    go_enter Tryz.func52,Tryz.ntmps52
    go_wp2_with (first|((with_reducible refine Zar 30 ?_);refine ZaK H rfl ?_;clear H;intro g1 w1 H q1 q2)|((with_reducible refine Zar 102 ?_);refine ZcX H rfl ?_;clear H;intro g2 w2 H q3 q4;have hb2:=H.below;have CC:=Zaa (ZdP kids P _ zs 98 clo98 #[.pointer (some ⟨g2,0,none⟩)] (fun q=>q.fit had) w2 (ZaC hown.out (fun k hk=>hb2.block k (Zaz hown.out hk).2)) (hkk.out.kept (fun b _ hl=>hb2.block b hl)) hln (fun q hq=>fit2_any q (ihH.out q hq) P g2 m had w2 (H.get 0 rfl) (hsH.out.block (hb2.block m hml)))))|((with_reducible refine Zac 3 ?_);refine Zax 1 0 H (v:=.int .i64 4) rfl rfl rfl ?_)|((with_reducible refine Zac 28 ?_);refine Zev 1 2 H (v:=.slice va kids.len vc) rfl rfl rfl ?_)|(go_at_call 96;refine CC.out.mono ?_))
    rintro e w4 ⟨rfl,B4⟩
    have b4:=Zaa (hb2.trans (B4.mono hb2.size))
    clear B4 CC H
    generalize kids.ls.any (fun q=>q.fit had)=bb at *
    go_wp2
    go_ret
    exact⟨by rw [hfit.out];rfl,b4.out⟩
end G
namespace G
open Go.RowKit Go.Shelf Go.Maps Go.WideMaps
attribute [local go_sem] Oper.semAt_some
theorem Zi0:∀ (f:Qf)(d:Nat),(∀ y ∈ f.ems d,fitQ y.2.1.o y.2.1.t y.2.2)->f.ok
 | .nil,_,_=>trivial
 | .cons o t k r,d,h=>by
  refine⟨?_,Zi0 k (d+1) (fun y hy=>h y (by simp [Qf.ems,hy])),Zi0 r d (fun y hy=>h y (by simp [Qf.ems,hy]))⟩
  have h1:=h (d,⟨o,t⟩,k.len) (by simp [Qf.ems])
  have hk0:k.len=0->k=.nil:=fun e=>by
   cases k with
   | nil=>rfl
   | cons _ _ _ _=>simp [Qf.len] at e
  rcases h1 with⟨h1,h2,h3⟩|⟨h1,h2,h3⟩|h1
  ·exact .inl ⟨h1,h2,hk0 h3⟩
  ·exact .inr (.inl ⟨h1,h2,hk0 h3⟩)
  ·exact .inr (.inr h1)
theorem chk_ok {q:Qy}(h:ZkU q):q.ok:=by
 have:=Zi0 (.cons q.op q.tx q.l .nil) 1 (fun y hy=>by
  refine (h y ?_).2
  simpa [Qf.ems,Zh1] using hy)
 exact⟨this.1,this.2.1⟩
theorem fit_same {q:Qy}{had had':List Tx}(h:∀ x,x ∈ had↔x ∈ had'):q.fit had=q.fit had':=by
 rw [Bool.eq_iff_iff]
 exact⟨Zgf (fun x hx=>(h x).1 hx),Zgf (fun x hx=>(h x).2 hx)⟩
structure FiI (w5:World) (m:Nat) (pr:List Tx) (W:World):Prop where
 s:SetT W m pr
 b:But (fun k=>k=m) w5 W
theorem FiI.own {w5:World}{m B:Nat}{pr:List Tx}{W W':World}{row:Option Nat}(h:FiI w5 m pr W)(hm:m<w5.heap.size)(hB:w5.heap.size<=B)(hg:W.grownBy W' row)(hr:∀ r,row=some r->B<=r/\∃ o:Obj,W.heap[r]?=some o/\o.isCells=false):FiI w5 m pr W' :=
 ⟨h.s.kept hg (fun e=>by have:=(hr m e.symm).1;omega),h.b.grown hg (fun k e hk=>by have:=(hr k e).1;omega)⟩
set_option maxRecDepth 100000 in
theorem fitsF_in (n:Nat)(hn:5<=n)(q:Qy)(hsz:q.sz<=4096)(P:Nat->Prop)(x:Value)(s:Tx)(hs:s.length<=1000000)(w:World)(T:QyV w P x q) :
  CallsIn Fence.wide n Tryz.prog 22 #[x,encStr s] w fun e w'=>∃ (b:Bool) (r:Int),e=.returned (.tuple #[.bool b,.int .i64 r])/\((ZkU q/\r=0/\b=q.fit (ZaE s))\/(¬ ZkU q/\r=2/\b=false))/\Below w.heap.size w w':=by
 have CK:=Zaa (fun (w':World) (hb:Below w.heap.size w w')=>check_any q _ x w' ((T.mono (P':=fun b=>b<w.heap.size) (fun b hb _=>hb)).kept (fun b _ hl=>hb.block b hl)) hsz)
 have TH:=Zaa (T.mono (P':=fun b=>b<w.heap.size) (fun b hb _=>hb))
 obtain⟨va,m0,c0,rfl⟩:=T.slice
 clear T
 have hmm:=@run_makeMap Tryz.prog
 refine callsIn_of_wp_marks Tryz.func22 rfl trivial ?_ rfl
 simp only [Tryz.ntmps22,List.size_toArray,List.length_cons,List.length_nil,Nat.reduceAdd,Nat.reduceSub,Array.replicate_succ,Array.replicate_zero,List.push_toArray,List.append_toArray,List.nil_append,List.cons_append]
 gi_wp2_with (first|((with_reducible refine Zbh 30 ?_);refine Ze4 Zad rfl ?_;intro g2 w1 hb2 B1 hg2;have hl2:=ZaY hb2;replace hb2:=Zaa hb2)|((with_reducible refine Zah 30 ?_);refine Zai 30 Zad rfl hl2 ?_))
 refine⟨trivial,fun h=>(by cases h),(callsIn_wide.2 (CK.out w1 B1)).mono ?_⟩
 rintro e w2 ⟨r,rfl,hr,B2⟩
 have b2:=Zaa (B1.trans (B2.mono B1.size))
 have hbox2:=Zaa ((B2.block g2 (Array.getElem?_eq_some_iff.1 hb2.out).1).trans hb2.out)
 rcases hr with⟨hyes,rfl⟩|⟨hbad,rfl⟩
 ·have hok:=Zaa (chk_ok hyes)
  replace hyes:=Zaa hyes
  have hg2l:=Zaa (Array.getElem?_eq_some_iff.1 hbox2.out).1
  clear hl2 hb2 B1 B2 CK
  gi_wp2_with (first|((with_reducible refine ZfI 102 ?_);refine ZcS Zad ?_;intro g7 w4 e7 h7 B4 s4;replace e7:=Zaa e7;replace s4:=Zaa s4)|((with_reducible refine Zb5 102 ?_);refine ZeT Zad h7 rfl rfl ?_;intro w5 h75 B5 s5;replace h75:=Zaa h75;replace s5:=Zaa s5))
  have e7o:=e7.out
  have s4o:=s4.out
  have s5o:=s5.out
  have m3:(w2.alloc (Obj.map #[] 0)).heap.size=w2.heap.size+1:=by simp
  have B3:=(Below.refl _ w2).alloc (Nat.le_refl _) (Obj.map #[] 0)
  have bb5:Below w2.heap.size w2 w5:=(B3.trans (B4.mono (by omega))).trans (B5.below (by omega) (fun k e=>by omega))
  have hset5:SetT w5 w2.heap.size []:=(ZeS w2).block ((B5.block _ (by omega) (fun e=>by omega)).trans (B4.block _ (by omega)))
  replace bb5:=Zaa bb5
  replace hset5:=Zaa hset5
  clear h7 B4 B5 B3 m3 e7o s4o s5o
  have sa2:Hid ((w2.alloc (Obj.map #[] 0)).heap.size=w2.heap.size+1):=by show _=_;simp
  refine⟨trivial,fun h=>(by cases h),(ZjN _ s w5).mono ?_⟩
  rintro e w6 ⟨rfl,e6⟩
  have hB6:Hid (w6.heap[w5.heap.size]?=some (.cells #[encStr s] 9 (0,0))):=by
   show _=_
   rw [e6];exact heap_alloc_new w5 _
  have B6:Hid (Below w5.heap.size w5 w6):=by
   show Below _ _ _
   rw [e6];exact (Below.refl _ w5).alloc (Nat.le_refl _) _
  clear e6
  gi_wp2
  have hmlt:=hset5.out.lt
  have hset6:=hset5.out.block (B6.out.block _ hmlt)
  have s56:=B6.out.size
  have hst:=Zeg (fun _=>False) (n - 1) (by omega) w5.heap.size s (by omega) (fun h=>h) w6 hB6.out
  have I0:FiI w6 w2.heap.size [] w6:=⟨hset6,But.refl _ _⟩
  have h76:=Zaa ((B6.out.block _ (Array.getElem?_eq_some_iff.1 h75.out).1).trans h75.out)
  have h76l:=(Array.getElem?_eq_some_iff.1 h76.out).1
  have hwl:=Zcb s
  have e7H:Hid (g7=w2.heap.size+1):=by show _=_;rw [e7.out,sa2.out]
  have b6:=Zaa (b2.out.trans ((bb5.out.trans (B6.out.mono bb5.out.size)).mono b2.out.size))
  have hg26:=Zaa ((B6.out.block _ (by have:=bb5.out.size;have:=hg2l.out;omega)).trans ((bb5.out.block _ hg2l.out).trans hbox2.out))
  have hg26l:=(Array.getElem?_eq_some_iff.1 hg26.out).1
  have s26:=bb5.out.size
  refine ZbG rfl (by omega) (gf:=89) (lb:=#[.pointer (some ⟨w5.heap.size,0,none⟩)]) rfl (Zad 89) (enters_of Tryz.func89 (by kernel_rfl) rfl) hst
   (fun h k=>h.trans k) (fun Wd l o o' hl ho hc _=>⟨by simp [World.putObj],fun k cs t fr _ e=>(World.putObj_heap_other (fun h=>by rw [h,ho] at e;cases e;cases hc)).trans e⟩)
   (Below.refl _ w6) (fun _=>rfl)
   (fun pr Wd=>FiI w6 w2.heap.size pr Wd)
   (fun _ _ _=>False)
   (fun pr Wd Wd' row hs hg hr=>hs.own (by omega) (Nat.le_refl _) hg hr)
   (fun _ _ _ _ _ hs _ _=>hs) I0
   (fun x a' Wd=>∃ (u0 u1 u4 u5 u6 u9 u10 u11 u12 u13 u14 u15 u16 u17 u18 u19 u20 u21 u22 u23:Value),a'={ tmps:=#[u0,u1,.pointer (some ⟨g2,0,none⟩),u4,u5,u6,u9,.pointer (some ⟨g7,0,none⟩),encStr x,u10,u11,u12,u13,u14,u15,u16,u17,u18,u19,u20,u21,u22,u23,undef],defers:=[] })
   (fun x a' _ Wd Wd' row hs hg' hr=>hs) ?assign ?body ?done ?stop
  case assign =>
   intro l2 pr x Wd K hi hK
   simp only [encT,List.zip_toArray,List.zip_cons_cons,List.zip_nil_left,List.zip_nil_right,List.foldl_toArray,List.foldl_cons,List.foldl_nil,List.setIfInBounds_toArray,List.set_cons_zero,List.set_cons_succ]
   replace hK:=Zaa hK
   replace hi:=Zaa hi
   gi_wp2
   exact hK.out _ Wd ⟨Nat.le_refl _,fun _ _ _ h _=>h⟩ (Kc.refl _ _) hi.out ⟨_,_,_,_,_,_,_,_,_,_,_,_,_,_,_,_,_,_,_,_,rfl⟩
  case body =>
   rintro l2 pr x a' Wd hl ⟨r,hr⟩ hI ⟨u0,u1,u4,u5,u6,u9,u10,u11,u12,u13,u14,u15,u16,u17,u18,u19,u20,u21,u22,u23,rfl⟩ hY hsz
   have hprl:pr.length<=1000000:=by have:=hY.length_le;simp at this;omega
   have hxl:x.length=3:=Zca (hY.subset (by simp))
   have hkey:=hkey9 (s:=x) (by rw [hxl];unfold maxLen;omega)
   have hnx:pr.length<maxLen:=by unfold maxLen;omega
   obtain⟨nn,D,hnn,hown,hhas⟩:=hI.s.map
   have hT7:=(hI.b.block g7 h76l (fun e=>by have:=e7H.out;omega)).trans h76.out
   have cT:=Zal hT7 0 (v:=.map (some w2.heap.size)) rfl
   have hownH:=Zaa hown
   have hhasH:=Zaa hhas
   have hIH:=Zaa hI
   replace hr:=Zaa hr
   clear hI hT7 hown hhas hY
   gi_wp2_with (first|((with_reducible refine Zah 102 ?_);refine Zai 102 (Zan l2) rfl (ZeU cT) ?_)|(gi_at_mapUpdate;refine wpListIn_mapUpdate_own _ rfl (.tmp 18) (.tmp 19) (.tmp 20) 102 rfl 9 103 law9 Tryz.underlying102 unitElem _ nn D rfl hownH.out (by omega) _ _ (txkey x) rfl rfl hkey (.agg []) [] unitElem_mk ?_;intro w8 hown8 hg8;replace hown8:=Zaa hown8;replace hg8:=Zaa hg8))
   obtain⟨o,ho1,ho2⟩:=hIH.out.s.obj
   have m8:SetT w8 w2.heap.size (pr++[x]):=⟨nn+1,_,by rw [List.length_append];simp;omega,hown8.out,fun s=>by
    by_cases e:s=x
    ·subst e
     rw [has_put_same hownH.out.isMap (show WideAt.IsKeyLit (txkey s) from trivial),decide_eq_true (by simp)]
    ·rw [has_put_other (fun h=>e (by simpa using h)),hhasH.out s]
     congr 1
     rw [List.mem_append,List.mem_singleton]
     exact propext ⟨fun h=>.inl h,fun h=>h.elim id (fun h=>absurd h e)⟩⟩
   refine⟨⟨hg8.out.size,fun k o hk ho _=>(hg8.out.block k (Array.getElem?_eq_some_iff.1 ho).1 (fun e=>by cases e;omega)).trans ho⟩,⟨hg8.out.size,fun k cs t fr _ h=>(hg8.out.block k (Array.getElem?_eq_some_iff.1 h).1 (fun e=>by
    cases e
    rw [ho1] at h
    cases h
    cases ho2)).trans h⟩,m8,hIH.out.b.grown hg8.out (fun k e _=>by cases e;rfl)⟩
  case done =>
   rintro D xs Wd hD hS hI hK
   rw [hS] at hI
   have hF:=fits_any 4096 q hsz (by omega) hok.out _ (qV q.op q.tx (.slice va m0 c0)) Wd w2.heap.size (Zbq s) (TH.out.kept (fun b hb _=>(hI.b.block b (by have:=b6.out.size;omega) (fun e=>by have:=b2.out.size;omega)).trans (b6.out.block b hb))) hI.s
   have cT:=Zal ((hI.b.block g7 h76l (fun e=>by have:=e7H.out;omega)).trans h76.out) 0 (v:=.map (some w2.heap.size)) rfl
   have hl30:=ZaY ((hI.b.block g2 hg26l (fun e=>by have:=hg2l.out;omega)).trans hg26.out)
   have belD:=Zaa (b6.out.trans (hI.b.below b6.out.size (fun k e=>by have:=b2.out.size;omega)))
   have hfs:Hid (q.fit (Zbq s)=q.fit (ZaE s)):=fit_same (fun x=>mem_ups.symm)
   have hFH:=Zaa hF
   have hDl:=Zaa (Array.getElem?_eq_some_iff.1 hK).1
   replace hI:=Zaa hI
   replace hK:=Zaa hK
   clear hF
   gi_wp2_with (first|((with_reducible refine Zah 30 ?_);refine Zai 30 Zad rfl hl30 ?_)|((with_reducible refine Zah 102 ?_);refine Zai 102 Zad rfl (ZeU cT) ?_))
   refine⟨trivial,fun h=>(by cases h),(callsIn_wide.2 hFH.out).mono ?_⟩
   rintro e W7 ⟨rfl,B7⟩
   have hK7:W7.heap[D]?=some (.deferred (some [])):=(B7.block D hDl.out).trans hK.out
   have bel7:=Zaa (belD.out.trans (B7.mono belD.out.size))
   replace hK7:=Zaa hK7
   clear B7
   gi_wp2
   have B77:=grownBy_putObj' W7 D (.deferred none)
   refine⟨by simp,.inl ⟨_,_,rfl,run_takeDeferred hK7.out,?_⟩⟩
   refine⟨_,results_tmp2 rfl _ _ _,_,_,rfl,.inl ⟨hyes.out,rfl,hfs.out⟩,?_⟩
   exact bel7.out.grown B77 bel7.out.size (fun k e=>by cases e;have:=b6.out.size;omega)
  case stop=>rintro D cc pr Wd hD hS h;exact h.elim
 ·replace hbad:=Zaa hbad
  clear hl2 hb2 B1 B2 CK
  gi_wp2
  exact⟨_,results_tmp2 rfl _ _ _,false,2,rfl,.inr ⟨hbad.out,rfl,rfl⟩,b2.out⟩
theorem Znm (q:Qy)(hsz:q.sz<=4096)(P:Nat->Prop)(x:Value)(s:Tx)(hs:s.length<=1000000)(w:World)(T:QyV w P x q) :
  Calls Tryz.prog 22 #[x,encStr s] w fun e w'=>∃ (b:Bool) (r:Int),e=.returned (.tuple #[.bool b,.int .i64 r])/\((ZkU q/\r=0/\b=q.fit (ZaE s))\/(¬ ZkU q/\r=2/\b=false))/\Below w.heap.size w w':=callsIn_wide.1 (fitsF_in 5 (by omega) q hsz P x s hs w T)
end G
namespace G
open Go.RowKit Go.Shelf Go.Lib
theorem Znn:∃ i,Tryz.prog.info? 85=some i/\i.zero=some (pV false nilS 0 [] nilS)/\i.size=5/\i.bytes=80:=by
 have h:(Tryz.prog.info? 85).map (fun i=>(i.zero,i.size,i.bytes))=some (some (pV false nilS 0 [] nilS),5,80):=infoP
 cases hi:Tryz.prog.info? 85 with
 | none=>rw [hi] at h;cases h
 | some i =>
  rw [hi] at h
  simp only [Option.map_some,Option.some.injEq,Prod.mk.injEq] at h
  exact⟨i,rfl,h.1,h.2.1,h.2.2⟩
def rpL (c:List Value):Nat->List Value
 | 0=>[]
 | k+1=>c++rpL c k
theorem ZbF {c:List Value}(h:c.length=5):∀ k,(rpL c k).length=k * 5
 | 0=>rfl
 | k+1=>by simp [rpL,ZbF h k,h];omega
theorem Ze6 (c:List Value):∀ k j,rpL c (k+j)=rpL c k++rpL c j
 | 0,j=>by simp [rpL]
 | k+1,j=>by rw [show k+1+j=k+j+1 by omega];simp [rpL,Ze6 c k j]
theorem Zi1 {c:List Value}:∀ k,∀ v ∈ rpL c k,v ∈ c
 | 0,v,h=>by simp [rpL] at h
 | k+1,v,h=>by
  simp only [rpL,List.mem_append] at h
  rcases h with h|h
  ·exact h
  ·exact Zi1 k v h
def z5:List Value:=(pA false nilS 0 [] nilS).toList
theorem ZfK:z5.length=5:=rfl
theorem rpL_get {c:List Value}(hc:c.length=5):∀ n j,j<n * 5->(rpL c n)[j]?=c[j % 5]?:=fun n=>by
 induction n with
 | zero=>intro j h;omega
 | succ n ih =>
  intro j h
  by_cases hj:j<5
  ·rw [rpL,List.getElem?_append_left (by omega),Nat.mod_eq_of_lt hj]
  ·rw [rpL,List.getElem?_append_right (by omega),hc,ih (j - 5) (by omega)]
   congr 1
   omega
theorem made5 (n:Nat):(madeCells (pV false nilS 0 [] nilS).cells (n * 5)).toList=rpL z5 n:=by
 apply List.ext_getElem?
 intro j
 by_cases hj:j<n * 5
 ·rw [rpL_get ZfK n j hj]
  have h5:j % 5<5:=Nat.mod_lt _ (by omega)
  rcases (show j % 5=0\/j % 5=1\/j % 5=2\/j % 5=3\/j % 5=4 by omega) with h|h|h|h|h <;> simp [madeCells,hj,h,pV,pA,Value.cells,z5,encStr]
 ·rw [List.getElem?_eq_none (by simp [madeCells];omega),List.getElem?_eq_none (by rw [ZbF ZfK];omega)]
theorem ZhP (w:World)(ty:TypeId)(g o dLen dCap:Nat)(a:Addr)(sLen sCap:Nat)(cur:Array Value)(cs:List Value)(hg:w.heap[g]?=some (.cells cur 85 (0,0)))(hn:cs.length=Nat.min sLen dLen * 5)
  (hsrc:∀ j v,cs[j]?=some v->w.cell? (a.add j)=some v) (hfit:o+cs.length<=cur.size) (h1:∀ v ∈ cs,v.oneCell'=true) :
  (Builtin.copy_ #[142,142] ty #[.slice (some ⟨g,o,none⟩) dLen dCap,.slice (some a) sLen sCap]).run Tryz.prog w =
   .ok (goInt (Nat.min sLen dLen)) (w.setRow g (cur.toList.take o++cs++cur.toList.drop (o+cs.length)).toArray):=by
 have hl:=run_loadCells_list (P:=Tryz.prog) w a cs hsrc
 have hst:=run_storeCells_at Tryz.prog g o 85 cs 0 cur w hg (by simpa using hfit) h1
 obtain⟨i,hi,_,hs,_⟩:=Znn
 simp [Builtin.copy_,run_underlying Tryz.underlying142,Builtin.lenOf,Builtin.firstCells,sizeOf,typeInfo,hi,hs,<- hn,hl,hst]
section
variable {S:Nat->Prop}{w0 w w':World}{L:List Ent}{ops:Array Oper}{rest:List Oper}{o:Oper}{a:Act}{Q:Exit->Act->World->Prop}{K:Act->World->Prop}{E:Prop}{dst:Option Nat}{x y:Operand}{ty:TypeId}{pos:String}{after:Array Edge}
theorem at_makeP (t:TypeId)(h:wpList Tryz.prog ops Q (⟨dst,.makeSlice t x y,ty,pos,after,none⟩::rest) a w):wpList Tryz.prog ops Q (⟨dst,.makeSlice t x y,ty,pos,after,none⟩::rest) a w:=h
theorem ZkW {n:Nat}(hn:n<=1000000)(hx:a.eval x=.int .i64 (n:Int))(hy:a.eval y=.int .i64 (n:Int))(k:∀ g w2,g=w.heap.size->w2.heap[g]?=some (.cells (rpL z5 n).toArray 85 (0,0))->Below w.heap.size w w2->wpList Tryz.prog ops Q rest (a.put dst (.slice (some ⟨g,0,none⟩) n n)) w2) :
  wpList Tryz.prog ops Q (⟨dst,.makeSlice 142 x y,ty,pos,after,none⟩::rest) a w:=by
 obtain⟨i,hi,hz,hs,hb⟩:=Znn
 have hr:=run_make (P:=Tryz.prog) w 142 85 i (pV false nilS 0 [] nilS) Tryz.underlying142 hi hz .i64 .i64 (n:Int) (n:Int) (by omega) (Int.le_refl _) (by rw [hb];omega) (by omega)
 refine ZaI (w':=w.alloc (.cells (madeCells (pV false nilS 0 [] nilS).cells (n * 5)) 85)) ?_ (k _ _ rfl (by rw [heap_alloc_new,<- made5 n]) ((Below.refl _ w).alloc (Nat.le_refl _) _))
 unfold execOp
 simp only [hx,hy,Sem.run_bind,hr,Result.andThen_ok,Sem.run_pure,Int.toNat_natCast,hs]
theorem at_copyP (h:wpList Tryz.prog ops Q (⟨dst,.call { callee:=.builtin .copy,args:=#[x,y],argTypes:=#[142,142] },ty,pos,after,none⟩::rest) a w):wpList Tryz.prog ops Q (⟨dst,.call { callee:=.builtin .copy,args:=#[x,y],argTypes:=#[142,142] },ty,pos,after,none⟩::rest) a w:=h
theorem ZkX {v1 v2 u:Value}(hx:a.eval x=v1)(hy:a.eval y=v2)(hr:(Builtin.copy_ #[142,142] ty #[v1,v2]).run Tryz.prog w=.ok u w')(h:wpList Tryz.prog ops Q rest (a.put dst u) w'):wpList Tryz.prog ops Q (⟨dst,.call { callee:=.builtin .copy,args:=#[x,y],argTypes:=#[142,142] },ty,pos,after,none⟩::rest) a w:=by
 refine ZaI ?_ h
 simp [execOp,resolve,invoke,builtin,hx,hy,hr,Result.andThen]
theorem ZhQ (hgd:o.guard=none)(s x:Operand)(ho:o.op=.call { callee:=.builtin .copy,args:=#[s,x],argTypes:=#[142,142] })(v1 v2 v':Value)(w':World)(hs:a.eval s=v1)(hx:a.eval x=v2)
  (hr:(Builtin.copy_ #[142,142] o.type #[v1,v2]).run Tryz.prog w=.ok v' w') (h:K (a.put o.dst v') w') :
  if Region.wanted o (yielded ops a.tmps)=true then Oper.wp Tryz.prog o a w K Q else E:=by
 have hw:Region.wanted o (yielded ops a.tmps)=true:=by simp [Region.wanted,hgd]
 rw [if_pos hw]
 unfold Oper.wp
 simp [execOp,ho,resolve,invoke,builtin,hs,hx,hr,Result.andThen]
 exact h
end
structure RpJ (w:World) (g n:Nat) (c:List Value) (m:Nat) (W:World):Prop where
 row:W.heap[g]?=some (.cells (rpL c m++rpL z5 (n - m)).toArray 85 (0,0))
 bel:Below w.heap.size w W
 le:w.heap.size<=g
theorem RpJ.copy {w W:World}{g n m:Nat}{c:List Value}(hc5:c.length=5)(hc1:∀ v ∈ c,v.oneCell'=true)(h:RpJ w g n c m W)(hm:m<n)(ty:TypeId):∃ W',(Builtin.copy_ #[142,142] ty #[.slice (some ⟨g,m * 5,none⟩) (n - m) (n - m),.slice (some ⟨g,0,none⟩) m n]).run Tryz.prog W=.ok (goInt (Nat.min m (n - m))) W'/\RpJ w g n c (m+Nat.min m (n - m)) W':=by
 obtain⟨k,hk⟩:∃ k,k=Nat.min m (n - m):=⟨_,rfl⟩
 have hk1:k<=m:=by rw [hk];exact Nat.min_le_left _ _
 have hk2:k<=n - m:=by rw [hk];exact Nat.min_le_right _ _
 have hl:(rpL c k).length=k * 5:=ZbF hc5 k
 refine⟨_,ZhP W ty g (m * 5) (n - m) (n - m) ⟨g,0,none⟩ m n _ (rpL c k) h.row (by rw [hl,hk]) (fun j v hj=>?_) (by simp [ZbF hc5,ZbF ZfK];omega) (fun v hv=>hc1 v (Zi1 k v hv)),?_,?_,h.le⟩
 ·rw [Zav,Nat.zero_add,cell_of_row W g j _ 85 (0,0) h.row]
  have e:rpL c m=rpL c k++rpL c (m - k):=by rw [<- Ze6];congr 1;omega
  rw [e,List.append_assoc]
  have hj':=(List.getElem?_eq_some_iff.1 hj).1
  simp only [List.getElem?_toArray]
  rw [List.getElem?_append_left hj']
  exact hj
 ·rw [<- hk]
  rw [setRow_heap W g _ _ 85 (0,0) h.row]
  have e:rpL z5 (n - m)=rpL z5 k++rpL z5 (n - (m+k)):=by rw [<- Ze6];congr 1;omega
  have l1:=ZbF hc5 m
  have l2:=ZbF ZfK k
  congr 2
  rw [Ze6,e,List.append_assoc]
  simp only [List.toList_toArray]
  rw [List.take_append_of_le_length (by omega),List.take_of_length_le (by omega)]
  rw [List.drop_append,List.drop_append]
  simp [l1,l2,hl]
  rw [List.drop_eq_nil_of_le (by omega),List.drop_eq_nil_of_le (by omega)]
  simp
 ·exact h.bel.trans ⟨rfl,rfl,rfl,by simp [World.setRow],fun j hj=>setRow_other W g j _ (by have:=h.le;omega)⟩
set_option maxRecDepth 100000 in
theorem Zi2 (w:World)(gs:Nat)(c:List Value)(n:Nat)(hn:n<=1000)(hc5:c.length=5)(hc1:∀ v ∈ c,v.oneCell'=true)(hgs:w.heap[gs]?=some (.cells c.toArray 85 (0,0))) :
  Calls Tryz.prog 133 #[.slice (some ⟨gs,0,none⟩) 1 1,.int .i64 (n:Int)] w fun e w'=>∃ g,e=.returned (.slice (some ⟨g,0,none⟩) n n)/\w.heap.size<=g/\w'.heap[g]?=some (.cells (rpL c n).toArray 85 (0,0))/\Below w.heap.size w w':=by
 have hgl:=(Array.getElem?_eq_some_iff.1 hgs).1
 have hu:(IntKind.u64.wrap (n:Int))=(n:Int):=by rw [IntKind.wrap_u64];omega
 have hu2:(IntKind.i64.wrap (n:Int))=(n:Int):=by rw [IntKind.wrap_i64];omega
 have n1:¬ ((n:Int)<0):=by omega
 have MU:=Zaa (ZlD 1 n (by omega) (by omega) w)
 rw [show 1 * n / 18446744073709551616=0 by omega,show 1 * n % 18446744073709551616=n by omega] at MU
 have m1:¬ ((9223372036854775807:Int)<(n:Int)):=by omega
 obtain⟨m0,hm0⟩:∃ m0,m0=Nat.min 1 n:=⟨_,rfl⟩
 replace hgs:=Zaa hgs
 go_enter Tryz.func133,Tryz.ntmps133
 go_wp2_with fail
 refine MU.out.mono ?_
 rintro e w1 ⟨rfl,rfl⟩
 have hq:Hid (∀ (g:Nat) (w2:World) (ty:TypeId),g=w1.heap.size->w2.heap[g]?=some (.cells (rpL z5 n).toArray 85 (0,0))->Below w1.heap.size w1 w2->∃ w3,(Builtin.copy_ #[142,142] ty #[.slice (some ⟨g,0,none⟩) n n,.slice (some ⟨gs,0,none⟩) 1 1]).run Tryz.prog w2=.ok (.int .i64 (m0:Int)) w3/\RpJ w1 g n c m0 w3):=fun g w2 ty hg hrow B2=>by
  have hl:(rpL c m0).length=m0 * 5:=ZbF hc5 _
  have hm1:m0<=1:=by rw [hm0];exact Nat.min_le_left _ _
  have hm2:m0<=n:=by rw [hm0];exact Nat.min_le_right _ _
  have hc:=ZhP w2 ty g 0 n n ⟨gs,0,none⟩ 1 1 _ (rpL c m0) hrow (by rw [hl,hm0]) (fun j v hj=>by
   rw [Zav,Nat.zero_add,cell_of_row w2 gs j _ 85 (0,0) ((B2.block gs hgl).trans hgs.out)]
   rcases (show m0=0\/m0=1 by omega) with h|h
   ·rw [h] at hj;simp [rpL] at hj
   ·rw [h] at hj
    simpa [rpL] using hj) (by simp [ZbF hc5,ZbF ZfK];omega) (fun v hv=>hc1 v (Zi1 _ v hv))
  rw [<- hm0] at hc
  refine⟨_,hc,?_,B2.trans ⟨rfl,rfl,rfl,by simp [World.setRow],fun j hj=>setRow_other w2 g j _ (by omega)⟩,by omega⟩
  rw [setRow_heap w2 g _ _ 85 (0,0) hrow]
  have e:rpL z5 n=rpL z5 m0++rpL z5 (n - m0):=by rw [<- Ze6];congr 1;omega
  have l2:=ZbF ZfK m0
  congr 2
  simp only [List.take_zero,List.nil_append,Nat.zero_add]
  rw [hl,e,List.drop_append]
  simp [l2]
 have hm3:Hid (m0<=n/\(n=0\/0<m0)):=by
  show _/\_
  have h1:m0=min 1 n:=hm0
  omega
 replace hm0:=Zaa hm0
 go_wp2_with (first|((with_reducible refine at_makeP 142 ?_);refine ZkW (n:=n) (by omega) rfl rfl ?_;intro g w2 hg hrow B2;obtain⟨w3,hcp,hRp⟩:=hq.out g w2 3 hg hrow B2;replace hcp:=Zaa hcp;replace hRp:=Zaa hRp;replace hg:=Zaa hg;replace hrow:=Zaa hrow;replace B2:=Zaa B2)|((with_reducible refine at_copyP ?_);refine ZkX rfl rfl hcp.out ?_))
 go_loopw [8] (fun mv wr=>∃ m:Nat,mv=.int .i64 (m:Int)/\m<=n/\Hid (n=0\/0<m)/\Hid (RpJ w1 g n c m wr)) (fun mv _=>n - (intOf mv).toNat)
 case atStart=>exact⟨m0,rfl,hm3.out.1,hm3.out.2,hRp⟩
 case round =>
  obtain⟨m,rfl,hmn,hm0',hR⟩:=hrel
  by_cases hlt:m<n
  ·have i1:(m:Int)<(n:Int):=by omega
   have i2:(m:Int)<=(n:Int):=by omega
   have i3:(0:Int)<=(m:Int):=by omega
   obtain⟨w5,hcp5,hR5⟩:=(⟨hR.out.row,hR.out.bel.drew,hR.out.le⟩:RpJ w1 g n c m wr.drew).copy hc5 hc1 hlt 3
   have hif:(if n=m then (some ⟨g,0,none⟩:Option Addr) else some ⟨g,m * 5,none⟩)=some ⟨g,m * 5,none⟩:=if_neg (by omega)
   obtain⟨k5,hk5⟩:∃ k5,k5=Nat.min m (n - m):=⟨_,rfl⟩
   obtain⟨d5,hd5⟩:∃ d5,d5=n - m:=⟨_,rfl⟩
   rw [<- hk5] at hcp5 hR5
   have hk6:0<k5:=by
    have h1:k5=min m (n - m):=hk5
    have:=hm0'.out
    omega
   have hk7:k5<=n - m:=by rw [hk5];exact Nat.min_le_right _ _
   have e5:IntKind.i64.wrap ((m:Int)+(k5:Int))=((m+k5:Nat):Int):=by rw [IntKind.wrap_i64];omega
   replace hcp5:=Zaa hcp5
   replace hR5:=Zaa hR5
   replace hk5:=Zaa hk5
   have hltH:=Zaa hlt
   have hcopy:Hid (∀ w',w'=wr->True):=fun _ _=>trivial
   go_wp2_with fail
   refine wp_region_noPanic ?_
   refine wp_region_held_drew (S:=(fun _=>True)) (by kernel_rfl) trivial (fun hH0=>?_)
   refine wpAnyH_take (i:=0) (oi:=⟨some 38,.move (.tmp 8),3,"slices.go:528",#[],none⟩) (v:=?_) rfl (by kernel_rfl) (by kernel_rfl) (by kernel_rfl) (fun _ _ _ h=>h) (Or.inl ⟨by rfl,?_⟩) hH0 ?_
   rotate_left
   ·intro w' hw'
    obtain _:=hw'
    go_simp
    try with_reducible rfl
   try simp only [Act.put,PuA]
   refine wpAnyH_take (i:=1) (oi:=⟨some 39,.move (.tmp 7),142,"slices.go:528",#[],none⟩) (v:=?_) rfl (by kernel_rfl) (by kernel_rfl) (by kernel_rfl) (fun _ _ _ h=>h) (Or.inl ⟨by rfl,?_⟩) hH0 ?_
   rotate_left
   ·intro w' hw'
    obtain _:=hw'
    go_simp
    try with_reducible rfl
   try simp only [Act.put,PuA]
   refine wpAnyH_take (i:=2) (oi:=⟨some 40,.move (.tmp 8),3,"slices.go:528",#[],none⟩) (v:=?_) rfl (by kernel_rfl) (by kernel_rfl) (by kernel_rfl) (fun _ _ _ h=>h) (Or.inl ⟨by rfl,?_⟩) hH0 ?_
   rotate_left
   ·intro w' hw'
    obtain _:=hw'
    go_simp
    try with_reducible rfl
   try simp only [Act.put,PuA]
   refine wpAnyH_take (i:=3) (oi:=⟨some 41,.slice 142 (.tmp 39) (some (.tmp 40)) none none,142,"slices.go:528",#[⟨1,.data⟩,⟨2,.data⟩],none⟩) (v:=?_) rfl (by kernel_rfl) (by kernel_rfl) (by kernel_rfl) (fun _ _ _ h=>h) (Or.inl ⟨by rfl,?_⟩) hH0 ?_
   rotate_left
   ·intro w' hw'
    obtain _:=hw'
    go_simp
    try with_reducible rfl
   try simp only [Act.put,PuA]
   refine wpAnyH_take (i:=4) (oi:=⟨some 42,.move (.tmp 7),142,"slices.go:528",#[],none⟩) (v:=?_) rfl (by kernel_rfl) (by kernel_rfl) (by kernel_rfl) (fun _ _ _ h=>h) (Or.inl ⟨by rfl,?_⟩) hH0 ?_
   rotate_left
   ·intro w' hw'
    obtain _:=hw'
    go_simp
    try with_reducible rfl
   try simp only [Act.put,PuA]
   refine wpAnyH_take (i:=5) (oi:=⟨some 43,.move (.tmp 8),3,"slices.go:528",#[],none⟩) (v:=?_) rfl (by kernel_rfl) (by kernel_rfl) (by kernel_rfl) (fun _ _ _ h=>h) (Or.inl ⟨by rfl,?_⟩) hH0 ?_
   rotate_left
   ·intro w' hw'
    obtain _:=hw'
    go_simp
    try with_reducible rfl
   try simp only [Act.put,PuA]
   refine wpAnyH_take (i:=6) (oi:=⟨some 44,.slice 142 (.tmp 42) none (some (.tmp 43)) none,142,"slices.go:528",#[⟨4,.data⟩,⟨5,.data⟩],none⟩) (v:=?_) rfl (by kernel_rfl) (by kernel_rfl) (by kernel_rfl) (fun _ _ _ h=>h) (Or.inl ⟨by rfl,?_⟩) hH0 ?_
   rotate_left
   ·intro w' hw'
    obtain _:=hw'
    go_simp
    try with_reducible rfl
   try simp only [Act.put,PuA]
   refine wpAnyH_ready (rs:=[7]) (by kernel_rfl) (by simp) ?_
   refine AllReadyH.cons (o:=⟨some 45,.call { callee:=.builtin .copy,args:=#[.tmp 41,.tmp 44],argTypes:=#[142,142] },3,"slices.go:528",#[⟨3,.data⟩,⟨6,.data⟩],none⟩) rfl (fun K hK=>?_) AllReadyH.nil
   refine ZhQ rfl (.tmp 41) (.tmp 44) rfl _ _ _ _ rfl rfl hcp5.out ?_
   refine hK.out _ _ trivial (fun hH1=>?_)
   clear hK
   try simp only [Act.put,PuA]
   refine wpAnyH_take (i:=8) (oi:=⟨some 46,.binOp .add 3 (.tmp 38) (.tmp 45) 3,3,"slices.go:528",#[⟨0,.data⟩,⟨7,.data⟩],none⟩) (v:=?_) rfl (by kernel_rfl) (by kernel_rfl) (by kernel_rfl) (fun _ _ _ h=>h) (Or.inl ⟨by rfl,?_⟩) hH1 ?_
   rotate_left
   ·intro w' hw'
    obtain _:=hw'
    go_simp
    try with_reducible rfl
   try simp only [Act.put,PuA]
   refine wpAnyH_take (i:=9) (oi:=⟨some 8,.assign (.tmp 46),3,"slices.go:528",#[⟨8,.data⟩,⟨7,.chain⟩,⟨0,.phase⟩,⟨1,.phase⟩,⟨2,.phase⟩,⟨3,.phase⟩,⟨4,.phase⟩,⟨5,.phase⟩,⟨6,.phase⟩,⟨7,.phase⟩,⟨8,.phase⟩],none⟩) (v:=?_) rfl (by kernel_rfl) (by kernel_rfl) (by kernel_rfl) (fun _ _ _ h=>h) (Or.inl ⟨by rfl,?_⟩) hH1 ?_
   rotate_left
   ·intro w' hw'
    obtain _:=hw'
    go_simp
    try with_reducible rfl
   try simp only [Act.put,PuA]
   refine wpAnyH_done (by kernel_rfl) ?_ _
   refine NoPanic.normal ?_
   go_wp2_with fail
   go_roundw
   case rel=>exact⟨m+k5,by go_num,by omega,Or.inr (by omega),hR5⟩
   case measure=>simp [intOf];omega
  ·obtain rfl:m=n:=by omega
   go_wp2_with fail
   go_ret
   refine⟨g,rfl,hR.out.le,?_,hR.out.bel⟩
   have:=hR.out.row
   simpa [rpL] using this
end G
end Go.Proofs.YtnffbmipllhjdaaGreatDoor
