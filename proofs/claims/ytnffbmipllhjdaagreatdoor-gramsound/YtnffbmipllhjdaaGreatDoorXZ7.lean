/- GramSound, part 7. -/
import Derived.Test.YtnffbmipllhjdaaGreatDoorXZ6
import Derived.Shelf.Pu.Clone
import Derived.Shelf.SortM.Plain
import Derived.Shelf.SortM.SortNone
import Derived.Ground.SlgmProg
import Derived.Shelf.Abstract
import Derived.Sort.OwnSorted
import Derived.Shelf.Lay
import Derived.Shelf.Strings.Builder1
import Derived.Shelf.Small.Strs
import Derived.Test.YtnffbmipllhjdaaGreatDoorXZ1
set_option linter.all false
set_option maxHeartbeats 8000000
namespace Go.Proofs.YtnffbmipllhjdaaGreatDoor
namespace G
open Go.RowKit Go.Shelf Go.Maps Go.WideMaps
attribute [local go_sem] Oper.semAt_some
theorem DsI.kc2 {X:Nat->Prop}{V:World}{gy gt m l:Nat}{had:List Tx}{W W':World}(h:DsI X V gy gt m l had W)(hk:Kc X W W')(hy:¬ X gy)(ht:¬ X gt)(hm:W'.heap[m]?=W.heap[m]?):DsI X V gy gt m l had W' :=
 ⟨h.kc.trans hk,hk.2 gy _ _ _ hy h.y,hk.2 gt _ _ _ ht h.t,h.s.block hm⟩
theorem Zcz {w w':World}{b n:Nat}{D:DataW Unit}(h:w.ownsMap (H:=Unit) Tryz.prog 9 unitElem b n D)(hb:w'.heap[b]?=w.heap[b]?):w'.ownsMap (H:=Unit) Tryz.prog 9 unitElem b n D:=by
 obtain⟨es,clock,e1,e2,e3,e4⟩:=h
 exact⟨es,clock,hb.trans e1,e2,e3,e4⟩
theorem SetT.again {w:World}{b:Nat}{pr:List Tx}{x:Tx}(h:SetT w b pr)(hx:x ∈ pr):SetT w b (pr++[x]):=by
 obtain⟨n,D,h1,h2,h3⟩:=h.map
 refine⟨n,D,by rw [List.length_append];omega,h2,fun s=>?_⟩
 rw [h3 s]
 congr 1
 rw [List.mem_append,List.mem_singleton]
 exact propext ⟨fun h=>.inl h,fun h=>h.elim id (fun e=>e ▸ hx)⟩
theorem Zbv {B B':Nat}{a b c:World}(h:KeepsFrom B a b)(k:KeepsFrom B' b c)(hB:B'<=B):KeepsFrom B a c:=⟨Nat.le_trans h.size k.size,fun i o hi ho hc=>k.same i o (by omega) (h.same i o hi ho hc) hc⟩
set_option maxRecDepth 100000 in
theorem ZcT (X0:Nat->Prop)(n:Nat)(h3:3<=n)(gs gk gf:Nat)(lb:Array Value)(L:List Tx)(hLx:∀ x ∈ L,x.length<=maxLen)(hLn:L.length<maxLen)(w:World)
  (eg:∀ args w,(callFunc gf args).run Tryz.prog w=.ok (.enter gf args) w)
  (hs:w.heap[gs]?=some (.cells #[.func (.func gf) #[] lb] 90 (0,0))) (hk:w.heap[gk]?=some (.cells #[.func (.func 41) #[] #[]] 80 (0,0))) (hkB:¬ X0 gk)
  (hseq:∀ W,Below w.heap.size w W->SeqB 0 Fence.wide (n - 1) Tryz.prog gf lb encT (fun _=>Kc (fun k=>X0 k/\k≠W.heap.size/\k≠W.heap.size+2)) (fun ys=>ys=L) (fun pre=>pre <+: L) (fun pre x=>pre++[x] <+: L) w) :
  SeqB 2 Fence.wide n Tryz.prog 88 #[.pointer (some ⟨gs,0,none⟩),.pointer (some ⟨gk,0,none⟩)] encT (fun B=>Kc (fun k=>X0 k/\k≠B/\k≠B+2)) (fun ys=>ys=dis [] L) (fun pre=>pre <+: dis [] L) (fun pre x=>pre++[x] <+: dis [] L) w:=fun l J Jx V hV hJ hJx hYY hJ0=>by
 have hs0:=hV.size
 have cS:=Zal ((hV.block gs (Array.getElem?_eq_some_iff.1 hs).1).trans hs) 0 (v:=.func (.func gf) #[] lb) rfl
 have hkV:Hid (V.heap[gk]?=some (.cells #[.func (.func 41) #[] #[]] 80 (0,0))):=(hV.block gk (Array.getElem?_eq_some_iff.1 hk).1).trans hk
 have hkl:=(Array.getElem?_eq_some_iff.1 hk).1
 have hsl:=(Array.getElem?_eq_some_iff.1 hs).1
 have hsq:=Zaa (hseq V hV)
 replace hYY:=Zaa hYY
 replace hJ:=Zaa hJ
 replace hJx:=Zaa hJx
 replace hJ0:=Zaa hJ0
 replace hLx:=Zaa hLx
 replace hLn:=Zaa hLn
 have hVH:=Zaa hV
 clear hs hk hseq hV
 show CallsIn Fence.wide n Tryz.prog 88 #[.func (.yield l) #[] #[],.pointer (some ⟨gs,0,none⟩),.pointer (some ⟨gk,0,none⟩)] V _
 have hmm:=@run_makeMap Tryz.prog
 refine callsIn_of_wp_marks Tryz.func88 rfl trivial ?_ rfl
 simp only [Tryz.ntmps88,List.size_toArray,List.length_cons,List.length_nil,Nat.reduceAdd,Nat.reduceSub,Array.replicate_succ,Array.replicate_zero,List.push_toArray,List.append_toArray,List.nil_append,List.cons_append]
 gi_wp2_with (first|((with_reducible refine Zbh 81 ?_);refine ZmO Zad rfl ?_;intro gy w1 ey hy1 B1 s1;replace hy1:=Zaa hy1;replace B1:=Zaa B1)|((with_reducible refine ZaO 102 ?_);refine ZcS Zad ?_;intro gt w3 et ht3 B3 s3)|((with_reducible refine Zay 102 ?_);refine ZeT Zad ht3 rfl rfl ?_;intro w4 ht4 B4 s4;replace ht4:=Zaa ht4;(have bV4:Below V.heap.size V w4:=((B1.out.trans (((Below.refl _ w1).alloc (Nat.le_refl _) (.map #[] 0)).mono (by omega))).trans (B3.mono (by simp;omega))).trans (B4.below (B:=V.heap.size) (by simp at s3;omega) (fun k e=>by simp at et;omega)));(have cS4:=(bV4.cell (p:=⟨gs,0,none⟩) (by show gs<V.heap.size;omega)).trans cS))|((with_reducible refine Zah 90 ?_);refine Zai 90 Zad rfl (ld90 cS4) ?_))
 have sa:(w1.alloc (Obj.map #[] 0)).heap.size=w1.heap.size+1:=by simp
 have sz4:w4.heap.size=V.heap.size+3:=by omega
 have egt:gt=V.heap.size+1+1:=by omega
 subst ey
 subst egt
 have y4:w4.heap[V.heap.size]?=some (.cells #[.func (.yield l) #[] #[]] 81 (0,0)):=((B4.block _ (by omega) (fun e=>by omega)).trans ((B3.block _ (by omega)).trans (Below.heap_alloc _ _ _ (by omega)))).trans hy1.out
 have m4:SetT w4 (V.heap.size+1) []:=by
  have:=ZeS w1
  rw [s1] at this
  exact this.block ((B4.block _ (by omega) (fun e=>by omega)).trans (B3.block _ (by omega)))
 obtain⟨X,hXd⟩:∃ X:Nat->Prop,X=fun k=>X0 k/\k≠V.heap.size/\k≠V.heap.size+2:=⟨_,rfl⟩
 rw [<- hXd] at hsq hYY
 have nX:∀ k,X k->X0 k/\k≠V.heap.size/\k≠V.heap.size+2:=fun k h=>by rw [hXd] at h;exact h
 have I0:DsI X V V.heap.size (V.heap.size+1+1) (V.heap.size+1) l [] w4:=⟨Kc.below bV4 (Nat.le_refl _),y4,ht4.out,m4⟩
 have J0:J [] w4:=ZaW hJ.out hJ0.out bV4
 have hy1X:¬ X V.heap.size:=fun h=>(nX _ h).2.1 rfl
 have hgtX:¬ X (V.heap.size+1+1):=fun h=>(nX _ h).2.2 rfl
 replace hXd:=Zaa hXd
 replace nX:=Zaa nX
 replace y4:=Zaa y4
 have hb0:=hVH.out.trans (bV4.mono hVH.out.size)
 clear B4 B3 cS4 cS m4 et sa s1 s3 s4
 replace sz4:=Zaa sz4
 refine ZbG rfl (by omega) (gf:=gf) (lb:=lb) rfl (Zad gf) eg hsq.out
  (fun h k=>h.trans k) (fun Wd l o o' hl ho hc _=>⟨by simp [World.putObj],fun k cs t fr _ e=>(World.putObj_heap_other (fun h=>by rw [h,ho] at e;cases e;cases hc)).trans e⟩)
  hb0 (fun _=>rfl)
  (fun pr Wd=>∃ xs,xs=dis [] pr/\J xs Wd/\DsI X V V.heap.size (V.heap.size+1+1) (V.heap.size+1) l pr Wd)
  (fun cc pr Wd=>cc=.ret/\∃ p,p <+: dis [] L/\Jx p Wd)
  (fun pr Wd Wd' row hs hg' hr=>by
   obtain⟨xs,e1,e2,e3⟩:=hs
   exact⟨xs,e1,ZfA hJ.out (by have:=sz4.out;omega) _ _ _ _ e2 hg' hr,e3.kc2 (Zgp hg' hr) hy1X hgtX (hg'.block _ e3.s.lt (fun e=>by have:=(hr _ e.symm).1;have:=sz4.out;omega))⟩)
  (fun cc pr Wd Wd' row hs hg' hr=>⟨hs.1,hs.2.elim fun p hp=>⟨p,hp.1,ZfA hJx.out (by have:=sz4.out;omega) _ _ _ _ hp.2 hg' hr⟩⟩) ⟨[],rfl,J0,I0⟩
  (fun x a' Wd=>∃ (u6 u7 u8 u9 u10 u11 u12 u13 u14 u15 u16 u17 u18 u19 u20 u21 u22 u23 u24 u25 u26 u27 u28:Value),a'={ tmps:=#[.func (.yield l) #[] #[],.pointer (some ⟨gs,0,none⟩),.pointer (some ⟨gk,0,none⟩),.pointer (some ⟨V.heap.size,0,none⟩),.pointer (some ⟨V.heap.size+1+1,0,none⟩),encStr x,u6,u7,u8,u9,u10,u11,u12,u13,u14,u15,u16,u17,u18,u19,u20,u21,u22,u23,u24,u25,u26,u27,u28],defers:=[] })
  (fun x a' _ Wd Wd' row hs hg' hr=>hs) ?assign ?body ?done ?stop
 case assign =>
  intro l2 pr x Wd K hi hK
  simp only [encT,List.zip_toArray,List.zip_cons_cons,List.zip_nil_left,List.zip_nil_right,List.foldl_toArray,List.foldl_cons,List.foldl_nil,List.setIfInBounds_toArray,List.set_cons_zero,List.set_cons_succ]
  replace hK:=Zaa hK
  replace hi:=Zaa hi
  gi_wp2
  exact hK.out _ Wd ⟨Nat.le_refl _,fun _ _ _ h _=>h⟩ (Kc.refl _ _) hi.out ⟨_,_,_,_,_,_,_,_,_,_,_,_,_,_,_,_,_,_,_,_,_,_,_,rfl⟩
 case body =>
  rintro l2 pr x a' Wd hl ⟨r,hr⟩ ⟨xs,hxs,hj,hd⟩ ⟨u6,u7,u8,u9,u10,u11,u12,u13,u14,u15,u16,u17,u18,u19,u20,u21,u22,u23,u24,u25,u26,u27,u28,rfl⟩ hY hsz
  have cK:=Zal (hd.kc.2 gk _ _ _ (fun h=>hkB (nX.out _ h).1) hkV.out) 0 (v:=.func (.func 41) #[] #[]) rfl
  have hxL:x ∈ L:=hY.subset (by simp)
  have hxm:=hLx.out x hxL
  have hkey:=hkey9 hxm
  have hprn:pr.length<maxLen:=by have:=hY.length_le;have:=hLn.out;simp at *;omega
  obtain⟨nn,D,hnn,hown,hhas⟩:=hd.s.map
  have cT:=Zal hd.t 0 (v:=.map (some (V.heap.size+1))) rfl
  replace hr:=Zaa hr
  have hjH:=Zaa hj
  have hdH:=Zaa hd
  replace hxs:=Zaa hxs
  have hYp:=Zaa hY
  replace hown:=Zaa hown
  replace hhas:=Zaa hhas
  clear hj hd hY
  gi_wp2_with (first|((with_reducible refine Zah 80 ?_);refine Zai 80 (Zan l2) rfl (ld80 cK) ?_))
  refine⟨trivial,fun h=>(by cases h),(ZmN _ _ _).mono ?_⟩
  rintro e Wk ⟨rfl,rfl⟩
  cases hin:decide (x ∈ pr) with
  | true =>
   have hin2:x ∈ pr:=of_decide_eq_true hin
   have hh:=hhas.out x
   rw [hin] at hh
   replace hin:=Zaa hin
   gi_wp2_with (first|((with_reducible refine Zah 102 ?_);refine Zai 102 (Zan l2) rfl (ZeU cT) ?_)|(gi_at_lookup;refine wpListIn_lookup_own_unit _ rfl (.tmp 16) (.tmp 17) 102 rfl 9 103 law9 Tryz.underlying102 (ZeR _) _ nn D rfl hown.out _ (txkey x) rfl hkey ?_;rw [hh])|((with_reducible refine ZaO 103 ?_);refine Zci (Zan l2) ?_;intro g7 w7 e7 h7 B7;clear h7;replace B7:=Zaa B7)|((with_reducible refine Zay 103 ?_);refine ZdI (Zan l2) rfl rfl ?_))
   refine⟨Za2 B7.out,Kc.below B7.out (Nat.le_refl _),xs,?_,ZaW hJ.out hjH.out B7.out,?_⟩
   ·rw [ZjB,if_pos (.inr hin2)];exact hxs.out
   ·have d7:=hdH.out.kc2 (Kc.below B7.out (Nat.le_refl _)) hy1X hgtX (B7.out.block _ hdH.out.s.lt)
    exact⟨d7.kc,d7.y,d7.t,d7.s.again hin2⟩
  | false =>
   have hin2:¬ x ∈ pr:=of_decide_eq_false hin
   have hds:xs++[x]=dis [] (pr++[x]):=by rw [ZjB,if_neg (by simpa using hin2),<- hxs.out]
   have hy8:∀ (w7 w8:World),Below Wk.heap.size Wk w7->w7.grownBy w8 (some (V.heap.size+1))->YieldAt Fence.wide (n - 1 - 1 - 1) Tryz.prog l (encT x) w8 fun e W' =>
     KeepsFrom V.heap.size w8 W'/\((e=.returned (.bool true)/\J (xs++[x]) W'/\Kc X w8 W')\/(e=.returned (.bool false)/\Jx (xs++[x]) W')):=fun w7 w8 B7 hg8=>by
    have j7:=ZaW hJ.out hjH.out B7
    obtain⟨o,ho1,ho2⟩:=hdH.out.s.obj
    have j8:J xs w8:=hJ.out _ _ _ _ j7 hg8 (fun r e=>by cases e;exact⟨by omega,o,(B7.block _ hdH.out.s.lt).trans ho1,ho2⟩)
    have hsz8:V.heap.size+2<=w8.heap.size:=by have:=hg8.size;have:=B7.size;have:=sz4.out;omega
    exact ZbW (hYY.out xs x w8 j8 (by rw [hds];exact ZfB hYp.out []) hsz8)
   replace hy8:=Zaa hy8
   replace hds:=Zaa hds
   have hh:=hhas.out x
   rw [hin] at hh
   replace hin:=Zaa hin
   replace hin2:=Zaa hin2
   gi_wp2_with (first|((with_reducible refine Zah 102 ?_);refine Zai 102 (Zan l2) rfl (ZeU cT) ?_)|(gi_at_lookup;refine wpListIn_lookup_own_unit _ rfl (.tmp 16) (.tmp 17) 102 rfl 9 103 law9 Tryz.underlying102 (ZeR _) _ nn D rfl hown.out _ (txkey x) rfl hkey ?_;rw [hh])|((with_reducible refine ZaO 103 ?_);refine Zci (Zan l2) ?_;intro g7 w7 e7 h7 B7;clear h7;replace B7:=Zaa B7;(have hown7:=Zaa (Zcz hown.out (B7.out.block _ hdH.out.s.lt)));(have cT7:=Zal ((B7.out.block _ (Array.getElem?_eq_some_iff.1 hdH.out.t).1).trans hdH.out.t) 0 (v:=.map (some (V.heap.size+1))) rfl))|((with_reducible refine Zay 103 ?_);refine ZdI (Zan l2) rfl rfl ?_)|((with_reducible refine Zah 102 ?_);refine Zai 102 (Zan l2) rfl (ZeU cT7) ?_)|(gi_at_mapUpdate;refine wpListIn_mapUpdate_own _ rfl (.tmp 22) (.tmp 23) (.tmp 24) 102 rfl 9 103 law9 Tryz.underlying102 unitElem _ nn D rfl hown7.out (by omega) _ _ (txkey x) rfl rfl hkey (.agg []) [] unitElem_mk ?_;intro w8 hown8 hg8;replace hown8:=Zaa hown8;replace hg8:=Zaa hg8;(obtain⟨fn,tmps,assign,body,hy,hR⟩:=hy8.out w7 w8 B7.out hg8.out);simp only [encT,encStr] at hy;(have cy8:=Zal ((hg8.out.block _ (by have:=B7.out.size;have:=(Array.getElem?_eq_some_iff.1 hdH.out.y).1;omega) (fun e=>by simp at e)).trans ((B7.out.block _ (Array.getElem?_eq_some_iff.1 hdH.out.y).1).trans hdH.out.y)) 0 (v:=.func (.yield l) #[] #[]) rfl))|((with_reducible refine Zah 81 ?_);refine Zai 81 (Zan l2) rfl (ld81 cy8) ?_))
   have y8:Hid (w8.heap[V.heap.size]?=some (.cells #[.func (.yield l) #[] #[]] 81 (0,0))):=(hg8.out.block _ (by have:=B7.out.size;have:=(Array.getElem?_eq_some_iff.1 hdH.out.y).1;omega) (fun e=>by simp at e)).trans ((B7.out.block _ (Array.getElem?_eq_some_iff.1 hdH.out.y).1).trans hdH.out.y)
   have t8:Hid (w8.heap[V.heap.size+1+1]?=some (.cells #[.map (some (V.heap.size+1))] 102 (0,0))):=(hg8.out.block _ (by have:=B7.out.size;have:=(Array.getElem?_eq_some_iff.1 hdH.out.t).1;omega) (fun e=>by simp at e)).trans ((B7.out.block _ (Array.getElem?_eq_some_iff.1 hdH.out.t).1).trans hdH.out.t)
   have m8:Hid (SetT w8 (V.heap.size+1) (pr++[x])):=⟨nn+1,_,by rw [List.length_append];simp;omega,hown8.out,fun s=>by
    by_cases e:s=x
    ·subst e
     rw [has_put_same hown7.out.isMap (show WideAt.IsKeyLit (txkey s) from trivial),decide_eq_true (by simp)]
    ·rw [has_put_other (fun h=>e (by simpa using h)),hhas.out s]
     congr 1
     rw [List.mem_append,List.mem_singleton]
     exact propext ⟨fun h=>.inl h,fun h=>h.elim id (fun h=>absurd h e)⟩⟩
   have k8:Hid (Kc X Wk w8):=(Kc.below B7.out (Nat.le_refl _)).trans ⟨hg8.out.size,fun k cs t fr _ h=>(hg8.out.block k (Array.getElem?_eq_some_iff.1 h).1 (fun e=>by
    cases e
    obtain⟨o,ho1,ho2⟩:=hdH.out.s.obj
    rw [(B7.out.block _ hdH.out.s.lt).trans ho1] at h
    cases h
    cases ho2)).trans h⟩
   have f8:Hid (KeepsFrom w4.heap.size Wk w8):=Zbv (Za2 B7.out) ⟨hg8.out.size,fun k o hk ho _=>(hg8.out.block k (Array.getElem?_eq_some_iff.1 ho).1 (fun e=>by cases e;have:=sz4.out;omega)).trans ho⟩ (Nat.le_refl _)
   have s8:=Zaa m8.out.lt
   refine⟨fun h=>(by cases h),RoundIn.mono (F:=Fence.wide.inRound l2) hR ?_⟩
   rintro e W3 ⟨k1,(⟨rfl,k2,k3⟩|⟨rfl,k2⟩)⟩
   ·have fin:KeepsFrom w4.heap.size Wk W3/\Kc X Wk W3/\∃ xs,xs=dis [] (pr++[x])/\J xs W3/\DsI X V V.heap.size (V.heap.size+1+1) (V.heap.size+1) l (pr++[x]) W3:=by
     obtain⟨o,ho1,ho2⟩:=m8.out.obj
     refine⟨Zbv f8.out k1 (by have:=sz4.out;omega),k8.out.trans k3,_,hds.out,k2,⟨hdH.out.kc.trans (k8.out.trans k3),k3.2 _ _ _ _ hy1X y8.out,k3.2 _ _ _ _ hgtX t8.out,m8.out.block ?_⟩⟩
     rw [ho1]
     exact k1.same _ o (by omega) ho1 ho2
    replace fin:=Zaa fin
    clear k1 k2 k3
    gi_wp2
    exact fin.out
   ·have fin:KeepsFrom w4.heap.size Wk W3/\∃ p,p <+: dis [] L/\Jx p W3:=⟨Zbv f8.out k1 (by have:=sz4.out;omega),_,by rw [hds.out];exact ZfB hYp.out [],k2⟩
    replace fin:=Zaa fin
    clear k1 k2
    gi_wp2
    exact⟨fin.out.1,rfl,fin.out.2⟩
 case done =>
  rintro D xs Wd hD hS ⟨ys,hys,hj,hd⟩ hK
  rw [hS] at hys
  replace hys:=Zaa hys
  replace hj:=Zaa hj
  replace hd:=Zaa hd
  replace hK:=Zaa hK
  gi_wp2
  refine⟨by simp,.inl ⟨_,_,rfl,run_takeDeferred hK.out,?_⟩⟩
  refine⟨_,results_none rfl _ _ _,⟨_,rfl⟩,.inl ⟨ys,hys.out,hJ.out.putObj _ hj.out (by have:=sz4.out;omega) hK.out rfl⟩⟩
 case stop =>
  rintro D cc pr Wd hD hS ⟨rfl,p,hp1,hp⟩ hK
  replace hp:=Zaa hp
  replace hp1:=Zaa hp1
  replace hK:=Zaa hK
  gi_wp2
  refine⟨by simp,.inl ⟨_,_,rfl,run_takeDeferred hK.out,?_⟩⟩
  refine⟨_,results_none rfl _ _ _,⟨_,rfl⟩,.inr ⟨p,hp1.out,hJx.out.putObj _ hp.out (by have:=sz4.out;omega) hK.out rfl⟩⟩
end G
namespace G
open Go.RowKit Go.Shelf Go.Maps Go.WideMaps
attribute [local go_sem] Oper.semAt_some
shelf_lay LaysPu.n25 Mp 25 at Tryz as Tryz.laysCL
shelf_lay_g SlLaysM.n6 Slgm 6 at Tryz 43 as Tryz.sort43
theorem clone90 (s:ByteArray)(w:World)(h:s.size<=281474976710656):Calls Tryz.prog 90 #[.string s] w fun e w'=>e=.returned (.string s)/\Below w.heap.size w w' :=
 AnyPu.stringslite_Clone Tryz.laysCL s w h
theorem Zhz (s:ByteArray)(w:World)(h:s.size<=281474976710656):Calls Tryz.prog 42 #[.string s] w fun e w'=>e=.returned (.string s)/\Below w.heap.size w w':=by
 have H:=Zaa (clone90 s w h)
 go_enter Tryz.func42,Tryz.ntmps42
 go_wp2_with fail
 refine H.out.mono ?_
 rintro e w1 ⟨rfl,B⟩
 replace B:=Zaa B
 go_wp2_with fail
 go_ret
 exact⟨rfl,B.out⟩
theorem ZeV (n:Nat)(v1 v2:Value)(w:World)(h1:∃ f xs ys,v1=.func f xs ys)(h2:∃ f xs ys,v2=.func f xs ys):CallsIn Fence.wide n Tryz.prog 39 #[v1,v2] w fun e w'=>e=.returned (.func (.func 88) #[] #[.pointer (some ⟨w.heap.size,0,none⟩),.pointer (some ⟨w.heap.size+1,0,none⟩)])/\w'=(w.alloc (.cells #[v1] 90)).alloc (.cells #[v2] 80):=by
 obtain⟨f1,x1,y1,rfl⟩:=h1
 obtain⟨f2,x2,y2,rfl⟩:=h2
 have hmf:∀ (fn:Fn) (first cap:Array Value) (w:World),(Instr.makeFunc fn first cap).run Tryz.prog w=.ok (.func fn first cap) w:=fun _ _ _ _=>rfl
 refine callsIn_of_wp Tryz.func39 rfl trivial ?_ rfl
 simp only [Tryz.ntmps39,List.size_toArray,List.length_cons,List.length_nil,Nat.reduceAdd,Nat.reduceSub,Array.replicate_succ,Array.replicate_zero,List.push_toArray,List.append_toArray,List.nil_append,List.cons_append]
 gi_wp2
 go_ret
 exact⟨by simp,rfl⟩
end G
namespace G
open Go.RowKit Go.Shelf
attribute [local go_sem] Oper.semAt_some
theorem ZmQ {w:World}{ad:Addr}{v:Value}(h:w.cell? ad=some v):(loadVar 43 ad).run Tryz.prog w=.ok v w:=by
 have ha:∀ w,(isAgg 43).run Tryz.prog w=.ok false w:=fun w=>by kernel_rfl
 simp [loadVar,ha,go_sem,h]
section
variable {F:Fence}{n:Nat}{w w':World}{ops:Array Oper}{o:Oper}{rest:List Oper}{a:Act}{K:Act->World->Prop}{E:Prop}{Q:Exit->Act->World->Prop}{dst:Option Nat}{x y:Operand}{ty:TypeId}{pos:String}{after:Array Edge}
theorem Zbw {v:Value}(hF:∀ f,F.fn f)(hgd:Region.wanted o (yielded ops a.tmps)=true)(hnd:∀ c,o.op≠.defer c)(hr:(execOp a.eval o).run Tryz.prog w=.ok (.value v) w')(h:K (a.put o.dst v) w'):if Region.wanted o (yielded ops a.tmps)=true then Oper.wpIn F n Tryz.prog o a w K Q else E:=by
 rw [if_pos hgd]
 unfold Oper.wpIn
 refine⟨fun f _=>hF f,?_⟩
 rw [Oper.semAt_plain F _ _ hnd,hr]
 exact h
theorem ZaP (hF:∀ f,F.fn f)(hgd:Region.wanted o (yielded ops a.tmps)=true)(hnd:∀ c,o.op≠.defer c)(hr:(execOp a.eval o).run Tryz.prog w=.ok .skip w')(h:K (a.put o.dst undef) w'):if Region.wanted o (yielded ops a.tmps)=true then Oper.wpIn F n Tryz.prog o a w K Q else E:=by
 rw [if_pos hgd]
 unfold Oper.wpIn
 refine⟨fun f _=>hF f,?_⟩
 rw [Oper.semAt_plain F _ _ hnd,hr]
 exact h
theorem bs43 (ev:Operand->Value){s:ByteArray}(hx:ev x=.string s)(w:World):(execOp ev ⟨dst,.buildSlice 43 1 #[(0,x)],ty,pos,after,none⟩).run Tryz.prog w=.ok (.value (.slice (some ⟨w.heap.size,0,none⟩) 1 1)) (w.alloc (.cells #[.string s] 9)):=by
 unfold execOp
 simp only [List.map_toArray,List.map_cons,List.map_nil,hx]
 kernel_rfl
theorem app43 {ev:Operand->Value}{v v1 v6:Value}{w6:World}(hx:ev x=v)(hy:ev y=v1)(hr:(Builtin.append_ #[43,43] 43 #[v,v1]).run Tryz.prog w=.ok v6 w6):(execOp ev ⟨dst,.call { callee:=.builtin .append,args:=#[x,y],argTypes:=#[43,43] },43,pos,after,none⟩).run Tryz.prog w=.ok (.value v6) w6:=by
 simp [execOp,resolve,invoke,builtin,hx,hy,hr,Result.andThen]
theorem st43 {ev:Operand->Value}{ad:Addr}{v6:Value}(hx:ev x=.pointer (some ad))(hy:ev y=v6)(hr:(storeVar 43 ad v6).run Tryz.prog w=.ok () w'):(execOp ev ⟨dst,.store 43 x y,ty,pos,after,none⟩).run Tryz.prog w=.ok .skip w':=by
 unfold execOp
 simp only [hx,hy,Instr.storeAt,Instr.sureAddr,Sem.run_bind,Sem.run_pure,Result.andThen_ok,hr]
end
set_option maxRecDepth 100000 in
theorem reg13 (l0 n0:Nat)(w:World)(g3:Nat)(v:Value)(s:ByteArray)(hsz:s.size<=281474976710656)(hv0:w.heap[g3]?=some (.cells #[v] 43 (0,0)))(Fin:World->Prop)(hpush0:∀ w4,Below w.heap.size w w4->∃ v6 w6,(Builtin.append_ #[43,43] 43 #[v,.slice (some ⟨w4.heap.size,0,none⟩) 1 1]).run Tryz.prog (w4.alloc (.cells #[.string s] 9))=.ok v6 w6/\v6.oneCell'=true/\(storeVar 43 ⟨g3,0,none⟩ v6).run Tryz.prog w6=.ok () (w6.setCell ⟨g3,0,none⟩ v6)/\Fin (w6.setCell ⟨g3,0,none⟩ v6))
  (u0 u1 u2 u5 u6 u7 u8 u9 u10 u11 u12 u13 u14 u15 u16:Value) (Q:Exit->Act->World->Prop)
  (h:∀ (w4:World) (v6:Value) (w':World),Fin w'->Q .normal { tmps:=(List.toArray ((u0::u1::u2::.pointer (some ⟨g3,0,none⟩)::.string s::u5::u6::u7::u8::v::.string s::.string s::.slice (some ⟨w4.heap.size,0,none⟩) 1 1::v6::u14::u15::u16::[]):List Value)),defers:=[] } w') :
  (Code.region 4 #[⟨some 9,.load 43 (.tmp 3),43,"gram.go:28",#[],none⟩,⟨some 10,.move (.tmp 4),9,"gram.go:28",#[],none⟩,⟨some 11,.call { callee:=.value (.func 42),args:=#[.tmp 10],argTypes:=#[9] },9,"gram.go:28",#[⟨1,.data⟩],none⟩,⟨some 12,.buildSlice 43 1 #[(0,.tmp 11)],43,"gram.go:28",#[⟨2,.data⟩],none⟩,⟨some 13,.call { callee:=.builtin .append,args:=#[.tmp 9,.tmp 12],argTypes:=#[43,43] },43,"gram.go:28",#[⟨0,.data⟩,⟨3,.data⟩,⟨2,.chain⟩],none⟩,⟨none,.store 43 (.tmp 3) (.tmp 13),0,"gram.go:28",#[⟨4,.data⟩,⟨4,.chain⟩,⟨0,.phase⟩,⟨1,.phase⟩,⟨2,.phase⟩,⟨3,.phase⟩,⟨4,.phase⟩],none⟩] true).wpIn (Fence.wide.inRound l0) n0 Tryz.prog Q { tmps:=(List.toArray ((u0::u1::u2::.pointer (some ⟨g3,0,none⟩)::.string s::u5::u6::u7::u8::u9::u10::u11::u12::u13::u14::u15::u16::[]):List Value)),defers:=[] } w:=by
 have hD:Below w.heap.size w w.drew:=(Below.refl _ w).drew
 have hpush:=Zaa hpush0
 have hv:Hid (∀ w1,Below w.heap.size w w1->w1.heap[g3]?=some (.cells #[v] 43 (0,0))):=fun w1 hb=>(hb.block g3 (Array.getElem?_eq_some_iff.1 hv0).1).trans hv0
 clear hpush0 hv0
 replace h:=Zaa h
 refine Code.wpIn_mono NoPanic.imp ?_
 refine wpIn_region_any (by kernel_rfl) ?_
 change wpAnyIn _ _ _ _ _ _ _ _ _ (World.drew w)
 refine ZbN l0 (ZeQ _ (by kernel_rfl)) _ _ _ _ ?_
 refine wpAnyIn_take (i:=1) (oi:=⟨some 10,.move (.tmp 4),9,"gram.go:28",#[],none⟩) (v:=?_) rfl rfl (by kernel_rfl) (by kernel_rfl) (by kernel_rfl) (fun _ _ _ h=>h) ⟨Or.inl ⟨by rfl,?_⟩,fun _=>rfl⟩ ?_
 rotate_left
 ·intro w'
  go_simp
  try with_reducible rfl
 try simp only [Act.put,PuA]
 refine wpAnyIn_ready (rs:=[0,2]) (by kernel_rfl) (by simp) ?_
 refine (AllReadyIn.cons (o:=⟨some 9,.load 43 (.tmp 3),43,"gram.go:28",#[],none⟩) rfl (fun K0 hK0=>?_) (AllReadyIn.cons (o:=⟨some 11,.call { callee:=.value (.func 42),args:=#[.tmp 10],argTypes:=#[9] },9,"gram.go:28",#[⟨1,.data⟩],none⟩) rfl (fun K2 hK2=>?_) AllReadyIn.nil))
 ·refine ZaJ 43 Zad rfl (by rfl) rfl (ZmQ (Zal (hv.out _ hD) 0 rfl)) (hK0 _ _ ?_)
  clear hK0 K0
  try simp only [Act.put,PuA]
  refine wpAnyIn_ready (rs:=[2]) (by kernel_rfl) (by simp) ?_
  refine (AllReadyIn.cons (o:=⟨some 11,.call { callee:=.value (.func 42),args:=#[.tmp 10],argTypes:=#[9] },9,"gram.go:28",#[⟨1,.data⟩],none⟩) rfl (fun K2 hK2=>?_) AllReadyIn.nil)
  go_simp
  refine⟨trivial,fun h=>(by cases h),(callsIn_wide.2 (Zhz _ _ hsz)).mono ?_⟩
  rintro e w4 ⟨rfl,B4⟩
  have E4:Below w.heap.size w w4:=hD.trans B4
  clear B4
  refine hK2 _ _ ?_
  clear hK2 K2
  try simp only [Act.put,PuA]
  refine wpAnyIn_ready (rs:=[3]) (by kernel_rfl) (by simp) ?_
  refine (AllReadyIn.cons (o:=⟨some 12,.buildSlice 43 1 #[(0,.tmp 11)],43,"gram.go:28",#[⟨2,.data⟩],none⟩) rfl (fun K3 hK3=>?_) AllReadyIn.nil)
  refine Zbw Zad (by rfl) (fun c=>nofun) (bs43 _ rfl _) (hK3 _ _ ?_)
  have E5:=(E4.trans (((Below.refl _ w4).alloc (Nat.le_refl _) (.cells #[.string s] 9)).mono E4.size))
  clear hK3 K3
  try simp only [Act.put,PuA]
  refine wpAnyIn_ready (rs:=[4]) (by kernel_rfl) (by simp) ?_
  refine (AllReadyIn.cons (o:=⟨some 13,.call { callee:=.builtin .append,args:=#[.tmp 9,.tmp 12],argTypes:=#[43,43] },43,"gram.go:28",#[⟨0,.data⟩,⟨3,.data⟩,⟨2,.chain⟩],none⟩) rfl (fun K4 hK4=>?_) AllReadyIn.nil)
  obtain⟨v6,w6,hr6,hc6,hp6⟩:=hpush.out w4 E4
  refine Zbw Zad (by rfl) (fun c=>nofun) (app43 rfl rfl hr6) (hK4 _ _ ?_)
  clear hK4 K4
  try simp only [Act.put,PuA]
  refine wpAnyIn_ready (rs:=[5]) (by kernel_rfl) (by simp) ?_
  refine (AllReadyIn.cons (o:=⟨none,.store 43 (.tmp 3) (.tmp 13),0,"gram.go:28",#[⟨4,.data⟩,⟨4,.chain⟩,⟨0,.phase⟩,⟨1,.phase⟩,⟨2,.phase⟩,⟨3,.phase⟩,⟨4,.phase⟩],none⟩) rfl (fun K5 hK5=>?_) AllReadyIn.nil)
  refine ZaP Zad (by rfl) (fun c=>nofun) (st43 rfl rfl hp6.1) (hK5 _ _ ?_)
  clear hK5 K5
  try simp only [Act.put,PuA]
  refine wpAnyIn_done (by kernel_rfl) ?_ _
  refine NoPanic.normal ?_
  exact h.out _ _ _ hp6.2
 ·go_simp
  refine⟨trivial,fun h=>(by cases h),(callsIn_wide.2 (Zhz _ _ hsz)).mono ?_⟩
  rintro e w4 ⟨rfl,B4⟩
  have E4:Below w.heap.size w w4:=hD.trans B4
  clear B4
  refine hK2 _ _ ?_
  clear hK2 K2
  try simp only [Act.put,PuA]
  refine wpAnyIn_ready (rs:=[0,3]) (by kernel_rfl) (by simp) ?_
  refine (AllReadyIn.cons (o:=⟨some 9,.load 43 (.tmp 3),43,"gram.go:28",#[],none⟩) rfl (fun K0 hK0=>?_) (AllReadyIn.cons (o:=⟨some 12,.buildSlice 43 1 #[(0,.tmp 11)],43,"gram.go:28",#[⟨2,.data⟩],none⟩) rfl (fun K3 hK3=>?_) AllReadyIn.nil))
  ·refine ZaJ 43 Zad rfl (by rfl) rfl (ZmQ (Zal (hv.out _ E4) 0 rfl)) (hK0 _ _ ?_)
   clear hK0 K0
   try simp only [Act.put,PuA]
   refine wpAnyIn_ready (rs:=[3]) (by kernel_rfl) (by simp) ?_
   refine (AllReadyIn.cons (o:=⟨some 12,.buildSlice 43 1 #[(0,.tmp 11)],43,"gram.go:28",#[⟨2,.data⟩],none⟩) rfl (fun K3 hK3=>?_) AllReadyIn.nil)
   refine Zbw Zad (by rfl) (fun c=>nofun) (bs43 _ rfl _) (hK3 _ _ ?_)
   have E5:=(E4.trans (((Below.refl _ w4).alloc (Nat.le_refl _) (.cells #[.string s] 9)).mono E4.size))
   clear hK3 K3
   try simp only [Act.put,PuA]
   refine wpAnyIn_ready (rs:=[4]) (by kernel_rfl) (by simp) ?_
   refine (AllReadyIn.cons (o:=⟨some 13,.call { callee:=.builtin .append,args:=#[.tmp 9,.tmp 12],argTypes:=#[43,43] },43,"gram.go:28",#[⟨0,.data⟩,⟨3,.data⟩,⟨2,.chain⟩],none⟩) rfl (fun K4 hK4=>?_) AllReadyIn.nil)
   obtain⟨v6,w6,hr6,hc6,hp6⟩:=hpush.out w4 E4
   refine Zbw Zad (by rfl) (fun c=>nofun) (app43 rfl rfl hr6) (hK4 _ _ ?_)
   clear hK4 K4
   try simp only [Act.put,PuA]
   refine wpAnyIn_ready (rs:=[5]) (by kernel_rfl) (by simp) ?_
   refine (AllReadyIn.cons (o:=⟨none,.store 43 (.tmp 3) (.tmp 13),0,"gram.go:28",#[⟨4,.data⟩,⟨4,.chain⟩,⟨0,.phase⟩,⟨1,.phase⟩,⟨2,.phase⟩,⟨3,.phase⟩,⟨4,.phase⟩],none⟩) rfl (fun K5 hK5=>?_) AllReadyIn.nil)
   refine ZaP Zad (by rfl) (fun c=>nofun) (st43 rfl rfl hp6.1) (hK5 _ _ ?_)
   clear hK5 K5
   try simp only [Act.put,PuA]
   refine wpAnyIn_done (by kernel_rfl) ?_ _
   refine NoPanic.normal ?_
   exact h.out _ _ _ hp6.2
  ·refine Zbw Zad (by rfl) (fun c=>nofun) (bs43 _ rfl _) (hK3 _ _ ?_)
   have E5:=(E4.trans (((Below.refl _ w4).alloc (Nat.le_refl _) (.cells #[.string s] 9)).mono E4.size))
   clear hK3 K3
   try simp only [Act.put,PuA]
   refine wpAnyIn_ready (rs:=[0]) (by kernel_rfl) (by simp) ?_
   refine (AllReadyIn.cons (o:=⟨some 9,.load 43 (.tmp 3),43,"gram.go:28",#[],none⟩) rfl (fun K0 hK0=>?_) AllReadyIn.nil)
   refine ZaJ 43 Zad rfl (by rfl) rfl (ZmQ (Zal (hv.out _ E5) 0 rfl)) (hK0 _ _ ?_)
   clear hK0 K0
   try simp only [Act.put,PuA]
   refine wpAnyIn_ready (rs:=[4]) (by kernel_rfl) (by simp) ?_
   refine (AllReadyIn.cons (o:=⟨some 13,.call { callee:=.builtin .append,args:=#[.tmp 9,.tmp 12],argTypes:=#[43,43] },43,"gram.go:28",#[⟨0,.data⟩,⟨3,.data⟩,⟨2,.chain⟩],none⟩) rfl (fun K4 hK4=>?_) AllReadyIn.nil)
   obtain⟨v6,w6,hr6,hc6,hp6⟩:=hpush.out w4 E4
   refine Zbw Zad (by rfl) (fun c=>nofun) (app43 rfl rfl hr6) (hK4 _ _ ?_)
   clear hK4 K4
   try simp only [Act.put,PuA]
   refine wpAnyIn_ready (rs:=[5]) (by kernel_rfl) (by simp) ?_
   refine (AllReadyIn.cons (o:=⟨none,.store 43 (.tmp 3) (.tmp 13),0,"gram.go:28",#[⟨4,.data⟩,⟨4,.chain⟩,⟨0,.phase⟩,⟨1,.phase⟩,⟨2,.phase⟩,⟨3,.phase⟩,⟨4,.phase⟩],none⟩) rfl (fun K5 hK5=>?_) AllReadyIn.nil)
   refine ZaP Zad (by rfl) (fun c=>nofun) (st43 rfl rfl hp6.1) (hK5 _ _ ?_)
   clear hK5 K5
   try simp only [Act.put,PuA]
   refine wpAnyIn_done (by kernel_rfl) ?_ _
   refine NoPanic.normal ?_
   exact h.out _ _ _ hp6.2
end G
namespace G
open Go.RowKit Go.Shelf Go.Maps Go.WideMaps Go.Sort
attribute [local go_sem] Oper.semAt_some
theorem infoS9:(Tryz.prog.info? 9).map (fun i=>(i.zero,i.size,i.bytes))=some (some (.string ByteArray.empty),1,16):=by kernel_rfl
structure GrI (w0:World) (g2 base:Nat) (pre:List Tx) (W:World):Prop where
 row:∃ v,W.heap[g2]?=some (.cells #[v] 43 (0,0))/\W.ownsRow base 9 1 v pre.length (pre.map encStr)
 bel:Below w0.heap.size w0 W
theorem Zeu {w:World}{base n:Nat}{v:Value}{xs:List Value}(h:w.ownsRow base 9 1 v n xs):v.oneCell'=true:=by
 rcases h.2 with⟨rfl,_⟩|⟨_,_,_,rfl,_⟩ <;> rfl
theorem Zc9 {w w':World}{base n:Nat}{v:Value}{xs:List Value}(h:w.ownsRow base 9 1 v n xs)(hk:∀ k cur,base<=k->w.heap[k]?=some (.cells cur 9 (0,0))->w'.heap[k]?=some (.cells cur 9 (0,0))):w'.ownsRow base 9 1 v n xs:=by
 refine⟨h.1,?_⟩
 rcases h.2 with h1|⟨g,cap,cur,rfl,h2,h3,h4⟩
 ·exact .inl h1
 ·exact .inr ⟨g,cap,cur,rfl,h2,hk g cur h2 h3,h4⟩
theorem GrI.own {w0:World}{g2 base B:Nat}{pre:List Tx}{W W':World}{row:Option Nat}(h:GrI w0 g2 base pre W)(hB:w0.heap.size<=B)(hg:W.grownBy W' row)(hr:∀ r,row=some r->B<=r/\∃ o:Obj,W.heap[r]?=some o/\o.isCells=false):GrI w0 g2 base pre W':=by
 have ne:∀ g xs t,W.heap[g]?=some (.cells xs t (0,0))->some g≠row:=fun g xs t h e=>by
  obtain⟨_,o,ho,hc⟩:=hr g e.symm
  rw [h] at ho
  cases ho
  cases hc
 obtain⟨v,h1,h2⟩:=h.row
 exact⟨⟨v,(hg.block g2 (Array.getElem?_eq_some_iff.1 h1).1 (ne _ _ _ h1)).trans h1,Zc9 h2 (fun k cur _ e=>(hg.block k (Array.getElem?_eq_some_iff.1 e).1 (ne _ _ _ e)).trans e)⟩,h.bel.grown hg h.bel.size (fun k e=>by have:=(hr k e).1;omega)⟩
theorem one43:∀ w,(sizeOf 43).run Tryz.prog w=.ok 1 w:=fun w=>by kernel_rfl
theorem GrI.push {w0:World}{g2 base:Nat}{pre:List Tx}{W:World}{v:Value}(h1:W.heap[g2]?=some (.cells #[v] 43 (0,0)))(h2:W.ownsRow base 9 1 v pre.length (pre.map encStr))(hbel:Below w0.heap.size w0 W)(hg:g2<base)(h0:w0.heap.size<=g2)(hb:base<=W.heap.size+1)(hl:pre.length<=1000000000)(x:Tx)(W4:World)(h4:Below W.heap.size W W4) :
  ∃ v6 w6,(Builtin.append_ #[43,43] 43 #[v,.slice (some ⟨W4.heap.size,0,none⟩) 1 1]).run Tryz.prog (W4.alloc (.cells #[.string ⟨x.toArray⟩] 9))=.ok v6 w6/\v6.oneCell'=true/\(storeVar 43 ⟨g2,0,none⟩ v6).run Tryz.prog w6=.ok () (w6.setCell ⟨g2,0,none⟩ v6) /\
   (GrI w0 g2 base (pre++[x]) (w6.setCell ⟨g2,0,none⟩ v6)/\But (fun k=>k=g2\/base<=k/\∃ cur,W.heap[k]?=some (.cells cur 9 (0,0))) W (w6.setCell ⟨g2,0,none⟩ v6)):=by
 obtain⟨i,hi,hz,hs,hby⟩:=info_parts infoS9
 have l2:=(Array.getElem?_eq_some_iff.1 h1).1
 have hs4:=h4.size
 have hold:∀ b,b<W.heap.size->(W4.alloc (.cells #[.string ⟨x.toArray⟩] 9)).heap[b]?=W.heap[b]?:=fun b hb=>(Below.heap_alloc _ _ _ (by omega)).trans (h4.block b hb)
 have ho1:(W4.alloc (.cells #[.string ⟨x.toArray⟩] 9)).ownsRow base 9 1 v pre.length (pre.map encStr):=Zc9 h2 (fun k cur _ e=>(hold k (Array.getElem?_eq_some_iff.1 e).1).trans e)
 obtain⟨v',w',r1,r2,r3,_,r5⟩:=run_append_own_at (P:=Tryz.prog) (W4.alloc (.cells #[.string ⟨x.toArray⟩] 9)) base 43 43 9 i (.string ByteArray.empty) 1 16 Tryz.underlying43 hi hz hs hby rfl (by decide) v pre.length (pre.map encStr) ho1 ⟨W4.heap.size,0,none⟩ 1 1 [.string ⟨x.toArray⟩] rfl (fun j u hj=>by
  rw [Zav,Nat.zero_add,cell_of_row _ _ _ _ _ _ (heap_alloc_new W4 _)]
  simpa using hj) (fun u hu=>by rw [List.mem_singleton.1 hu];rfl) (by unfold maxLen;omega) (by omega) (by simp;omega)
 have hvb:∀ k,v.ownBlock=some k->base<=k/\∃ cur,W.heap[k]?=some (.cells cur 9 (0,0)):=fun k e=>by
  rcases h2.2 with⟨rfl,_⟩|⟨g,cap,cur,rfl,q1,q2,_⟩
  ·cases e
  ·cases e;exact⟨q1,cur,q2⟩
 have hnw:∀ k,k<W.heap.size->v.ownBlock≠some k->w'.heap[k]?=W.heap[k]?:=fun k hk hn=>(r3.block k (by simp;omega) (fun e=>hn e.symm)).trans (hold k hk)
 have hv2:v.ownBlock≠some g2:=fun e=>by have:=(hvb g2 e).1;omega
 have e2:=(hnw g2 l2 hv2).trans h1
 have ot:∀ k,k≠g2->(w'.setCell ⟨g2,0,none⟩ v').heap[k]?=w'.heap[k]?:=fun k hk=>Below.heap_setCell w' ⟨g2,0,none⟩ _ k hk
 have hsz:=r3.size
 simp at hsz
 have hone:=Zeu r2
 have hB:But (fun k=>k=g2\/base<=k/\∃ cur,W.heap[k]?=some (.cells cur 9 (0,0))) W (w'.setCell ⟨g2,0,none⟩ v'):=⟨by have a:=r3.os;have b:=h4.os;exact a.trans b,by have a:=r3.tape;have b:=h4.tape;exact a.trans b,by have a:=r3.output;have b:=h4.output;exact a.trans b,by simp [World.setCell];omega,fun k hk hn=>by
  rw [ot k (fun e=>hn (.inl e))]
  exact hnw k hk (fun e=>hn (.inr (hvb k e)))⟩
 have hst:(storeVar 43 ⟨g2,0,none⟩ v').run Tryz.prog w'=.ok () (w'.setCell ⟨g2,0,none⟩ v'):=by
  have hc:=Zal e2 0 (v:=v) rfl
  have hf:=frozen_of_row w' g2 0 _ 43 e2
  have hcs:v'.cells=#[v']:=by cases v' <;> first|rfl|cases hone
  have e:(storeCells ⟨g2,0,none⟩ [v']).run Tryz.prog w'=.ok () (w'.setCell ⟨g2,0,none⟩ v'):=by simp [storeCells,go_sem,run_store Tryz.prog w' _ v' _ hone,stored,hc,hf]
  unfold storeVar
  simp only [Sem.run_bind,one43,Result.andThen_ok,hcs]
  simpa using e
 refine⟨v',w',r1,hone,hst,⟨⟨v',heap_setCell_same w' g2 0 _ 43 _ e2,?_⟩,?_⟩,hB⟩
 ·have:=Zc9 (w':=w'.setCell ⟨g2,0,none⟩ v') r2 (fun k cur hk e=>(ot k (by omega)).trans e)
  simpa [encStr] using this
 ·exact hbel.trans (hB.below (by have:=hbel.size;omega) (fun k e=>by have:=hbel.size;omega))
end G
namespace G
open Go.RowKit Go.Shelf Go.Maps Go.WideMaps Go.Sort
attribute [local go_sem] Oper.semAt_some
section
variable {F:Fence}{n:Nat}{w w':World}{ops:Array Oper}{rest:List Oper}{a:Act}{Q:Exit->Act->World->Prop}{dst:Option Nat}{x y:Operand}{ty:TypeId}{pos:String}{after:Array Edge}
theorem ZiO (hF:∀ f,F.fn f)(h:∀ g w',g=w.heap.size->w'.heap[g]?=some (.cells #[.slice none 0 0] 43 (0,0))->Below w.heap.size w w'->w'.heap.size=w.heap.size+1->wpListIn F n Tryz.prog ops Q rest (a.put dst (.pointer (some ⟨g,0,none⟩))) w'):wpListIn F n Tryz.prog ops Q (⟨dst,.alloc 43,ty,pos,after,none⟩::rest) a w:=by
 have e:(execOp a.eval ⟨dst,.alloc 43,ty,pos,after,none⟩).run Tryz.prog w=.ok (.value (.pointer (some ⟨w.heap.size,0,none⟩))) (w.alloc (.cells #[.slice none 0 0] 43)):=by
  unfold execOp
  kernel_rfl
 exact ZaF hF (fun c=>nofun) e (h _ _ rfl (heap_alloc_new w _) ((Below.refl _ w).alloc (Nat.le_refl _) _) (by simp))
end
theorem ZjO {w:World}{base:Nat}{v:Value}{ss:List Tx}(h:w.ownsRow base 9 1 v ss.length (ss.map encStr))(hl:ss.length<=1000000000) :
  Calls Tryz.prog 43 #[v] w fun e w'=>e=.returned (.tuple #[])/\w'.ownsRow base 9 1 v (srt ss).length ((srt ss).map encStr)/\w.grownBy w' v.ownBlock:=by
 rcases h.2 with⟨rfl,h0⟩|⟨g,cap,cur,rfl,hb,hg,h1,h2,h3,ht⟩
 ·obtain rfl:ss=[]:=List.eq_nil_of_length_eq_zero h0
  refine (AnyM.slices_Sort_string_none Tryz.sort43 none 0 w).mono ?_
  rintro e w' ⟨rfl,rfl⟩
  refine⟨rfl,by simpa [srt] using h,⟨rfl,rfl,rfl,Nat.le_refl _,fun _ _ _=>rfl⟩⟩
 ·rcases Nat.eq_zero_or_pos ss.length with h0|hp
  ·obtain rfl:ss=[]:=List.eq_nil_of_length_eq_zero h0
   refine (AnyM.slices_Sort_string_none Tryz.sort43 (some ⟨g,0,none⟩) cap w).mono ?_
   rintro e w' ⟨rfl,rfl⟩
   refine⟨rfl,by simpa [srt] using h,⟨rfl,rfl,rfl,Nat.le_refl _,fun _ _ _=>rfl⟩⟩
  ·rw [Nat.mul_one] at ht
   refine (AnyM.slices_Sort_string Tryz.sort43 g 0 cap ss w (holds_of_block hg ht) (Array.getElem?_eq_some_iff.1 hg).1 (by omega)).mono ?_
   rintro e w' ⟨rfl,m,os,rfl⟩
   refine⟨rfl,?_,grownBy_sorted _⟩
   have:=ownsRow_sorted (n:=m) (os:=os) (ts:=srt ss) (Zgc ss) hb hg h1 h2 h3
   rw [Zgc]
   exact this
set_option maxRecDepth 100000 in
theorem ZmR (n:Nat)(hn:5<=n)(s:Tx)(hs:s.length<=1000000)(w:World) :
  CallsIn Fence.wide n Tryz.prog 13 #[encStr s] w fun e w'=>∃ v,e=.returned v/\w'.ownsRow w.heap.size 9 1 v (ZaE s).length ((ZaE s).map encStr)/\Below w.heap.size w w':=by
 refine callsIn_of_wp_marks Tryz.func13 rfl trivial ?_ rfl
 simp only [Tryz.ntmps13,List.size_toArray,List.length_cons,List.length_nil,Nat.reduceAdd,Nat.reduceSub,Array.replicate_succ,Array.replicate_zero,List.push_toArray,List.append_toArray,List.nil_append,List.cons_append]
 gi_wp2_with (first|((with_reducible refine ZaO 43 ?_);refine ZiO Zad ?_;intro g3 w1 e3 h3 B1 s1;replace h3:=Zaa h3;replace B1:=Zaa B1))
 refine⟨trivial,fun h=>(by cases h),(ZjN _ s w1).mono ?_⟩
 rintro e w2 ⟨rfl,e2⟩
 have hB2:Hid (w2.heap[w.heap.size+1]?=some (.cells #[encStr s] 9 (0,0))):=by
  show _=_
  rw [e2,<- s1];exact heap_alloc_new w1 _
 have B2:Hid (Below w1.heap.size w1 w2):=by
  show Below _ _ _
  rw [e2];exact (Below.refl _ w1).alloc (Nat.le_refl _) _
 have s2:Hid (w2.heap.size=w.heap.size+2):=by
  show _=_
  rw [e2];simp;omega
 clear e2
 gi_wp2
 refine⟨trivial,fun h=>(by cases h),(ZeV _ _ _ w2 ⟨_,_,_,rfl⟩ ⟨_,_,_,rfl⟩).mono ?_⟩
 rintro e w3 ⟨rfl,e4⟩
 have hS3:Hid (w3.heap[w2.heap.size]?=some (.cells #[.func (.func 89) #[] #[.pointer (some ⟨w.heap.size+1,0,none⟩)]] 90 (0,0))):=by
  show _=_
  rw [e4];exact (Below.heap_alloc _ _ _ (by simp)).trans (heap_alloc_new w2 _)
 have hK3:Hid (w3.heap[w2.heap.size+1]?=some (.cells #[.func (.func 41) #[] #[]] 80 (0,0))):=by
  show _=_
  rw [e4]
  have:=heap_alloc_new (w2.alloc (.cells #[.func (.func 89) #[] #[.pointer (some ⟨w.heap.size+1,0,none⟩)]] 90)) (.cells #[.func (.func 41) #[] #[]] 80)
  simpa using this
 have B3:Hid (Below w2.heap.size w2 w3):=by
  show Below _ _ _
  rw [e4];exact ((Below.refl _ w2).alloc (Nat.le_refl _) _).alloc (by simp) _
 have s3:Hid (w3.heap.size=w.heap.size+4):=by
  show _=_
  have:=s2.out
  rw [e4];simp;omega
 clear e4
 gi_wp2
 have sw1:=s2.out
 have sw3:=s3.out
 subst e3
 have hB3:w3.heap[w.heap.size+1]?=some (.cells #[encStr s] 9 (0,0)):=(B3.out.block _ (by omega)).trans hB2.out
 have hG3:w3.heap[w.heap.size]?=some (.cells #[.slice none 0 0] 43 (0,0)):=(B3.out.block _ (by omega)).trans ((B2.out.block _ (by omega)).trans h3.out)
 have bel3:Below w.heap.size w w3:=(B1.out.trans (B2.out.mono (by omega))).trans (B3.out.mono (by omega))
 obtain⟨X0,hX0⟩:∃ X0:Nat->Prop,X0=fun k=>k=w.heap.size\/w3.heap.size<=k:=⟨_,rfl⟩
 have hwl:=Zcb s
 have hst:=ZcT X0 (n - 1) (by omega) w2.heap.size (w2.heap.size+1) 89 #[.pointer (some ⟨w.heap.size+1,0,none⟩)] (Zbq s) (fun x hx=>by have:=Zca hx;unfold maxLen;omega) (by unfold maxLen;omega) w3 (enters_of Tryz.func89 (by kernel_rfl) rfl) hS3.out hK3.out (fun h=>by rw [hX0] at h;rcases h with h|h <;> omega)
  (fun W hW=>Zeg _ (n - 1 - 1) (by omega) (w.heap.size+1) s (by omega) (fun h=>by have h1:=h.1;rw [hX0] at h1;rcases h1 with h1|h1 <;> omega) w3 hB3)
 have I0:GrI w w.heap.size (w3.heap.size+5) [] w3:=⟨⟨_,hG3,rfl,.inl ⟨rfl,rfl⟩⟩,bel3⟩
 have hdl:(dis [] (Zbq s)).length<=1000000:=Nat.le_trans (dis_le _ _) (by omega)
 replace hX0:=Zaa hX0
 clear B1 B2 B3 h3 hB2 hS3 hK3 hB3 hG3 s1 s2 s3
 replace bel3:=Zaa bel3
 replace hst:=Zaa hst
 refine ZbG rfl (by omega) (gf:=88) (lb:=#[.pointer (some ⟨w2.heap.size,0,none⟩),.pointer (some ⟨w2.heap.size+1,0,none⟩)]) rfl (Zad 88) (enters_of Tryz.func88 (by kernel_rfl) rfl) hst.out
  (fun h k=>h.trans k) (fun Wd l o o' hl ho hc _=>⟨by simp [World.putObj],fun k cs t fr _ e=>(World.putObj_heap_other (fun h=>by rw [h,ho] at e;cases e;cases hc)).trans e⟩)
  (Below.refl _ w3) (fun _=>rfl)
  (fun pr Wd=>GrI w w.heap.size (w3.heap.size+5) pr Wd)
  (fun _ _ _=>False)
  (fun pr Wd Wd' row hs hg hr=>hs.own (by omega) hg hr)
  (fun _ _ _ _ _ hs _ _=>hs) I0
  (fun x a' Wd=>∃ (u0 u1 u2 u5 u6 u7 u8 u9 u10 u11 u12 u13 u14 u15 u16:Value),a'={ tmps:=#[u0,u1,u2,.pointer (some ⟨w.heap.size,0,none⟩),encStr x,u5,u6,u7,u8,u9,u10,u11,u12,u13,u14,u15,u16],defers:=[] })
  (fun x a' _ Wd Wd' row hs hg' hr=>hs) ?assign ?body ?done ?stop
 case assign =>
  intro l2 pr x Wd K hi hK
  simp only [encT,List.zip_toArray,List.zip_cons_cons,List.zip_nil_left,List.zip_nil_right,List.foldl_toArray,List.foldl_cons,List.foldl_nil,List.setIfInBounds_toArray,List.set_cons_zero,List.set_cons_succ]
  replace hK:=Zaa hK
  replace hi:=Zaa hi
  gi_wp2
  exact hK.out _ Wd ⟨Nat.le_refl _,fun _ _ _ h _=>h⟩ (Kc.refl _ _) hi.out ⟨_,_,_,_,_,_,_,_,_,_,_,_,_,_,_,rfl⟩
 case body =>
  rintro l2 pr x a' Wd hl ⟨r,hr⟩ hI ⟨u0,u1,u2,u5,u6,u7,u8,u9,u10,u11,u12,u13,u14,u15,u16,rfl⟩ hY hsz
  obtain⟨v,hv,ho⟩:=hI.row
  have hprl:pr.length<=1000000:=by have:=hY.length_le;simp at this;omega
  have hxl:x.length=3:=Zca ((Zdr (Zbq s) [] x).1 (hY.subset (by simp))).1
  have hps:=Zaa (fun w4 h4=>GrI.push hv ho hI.bel (by omega) (Nat.le_refl _) (by omega) (by omega) x w4 h4)
  have hvl:=(Array.getElem?_eq_some_iff.1 hv).1
  replace hr:=Zaa hr
  have hIH:=Zaa hI
  have hvH:=Zaa hv
  have hYH:=Zaa hY
  clear hI hY ho
  gi_wp2
  refine reg13 l2 _ Wd w.heap.size v ⟨x.toArray⟩ (by show x.toArray.size<=_;rw [List.size_toArray,hxl];omega) hvH.out (fun W'=>GrI w w.heap.size (w3.heap.size+5) (pr++[x]) W'/\But (fun k=>k=w.heap.size\/w3.heap.size+5<=k/\∃ cur,Wd.heap[k]?=some (.cells cur 9 (0,0))) Wd W') hps.out _ _ _ _ _ _ _ _ _ _ _ _ _ _ _ _ (fun w4 v6 W' hF=>?_)
  obtain⟨hg,hb⟩:=hF
  refine⟨⟨hb.size,fun k o hk ho hcs=>(hb.block k (Array.getElem?_eq_some_iff.1 ho).1 (fun h=>by
   rcases h with h|⟨_,cur,h⟩
   ·omega
   ·rw [ho] at h;cases h;cases hcs)).trans ho⟩,⟨hb.size,fun k cs t fr hX e=>(hb.block k (Array.getElem?_eq_some_iff.1 e).1 (fun h=>hX (by
   rw [hX0.out]
   rcases h with h|⟨h,_⟩
   ·exact⟨.inl h,by omega,by omega⟩
   ·exact⟨.inr (by omega),by omega,by omega⟩))).trans e⟩,hg⟩
 case done =>
  rintro D xs Wd hD hS hI hK
  rw [hS] at hI
  obtain⟨v,hv,ho⟩:=hI.row
  have hsrt:=Zaa (ZjO ho (by omega))
  have c6:=Zal hv 0 (v:=v) rfl
  have hvb:∀ k,v.ownBlock=some k->w3.heap.size+5<=k/\∃ cur,Wd.heap[k]?=some (.cells cur 9 (0,0)):=fun k e=>by
   rcases ho.2 with⟨rfl,_⟩|⟨g,cap,cur,rfl,q1,q2,_⟩
   ·cases e
   ·cases e;exact⟨q1,cur,q2⟩
  replace hv:=Zaa hv
  replace ho:=Zaa ho
  replace hI:=Zaa hI
  replace hK:=Zaa hK
  replace hvb:=Zaa hvb
  gi_wp2_with (first|((with_reducible refine Zah 43 ?_);refine Zai 43 Zad rfl (ZmQ c6) ?_))
  refine⟨trivial,fun h=>(by cases h),(callsIn_wide.2 hsrt.out).mono ?_⟩
  rintro e W7 ⟨rfl,ho7,hg7⟩
  have hDl:=(Array.getElem?_eq_some_iff.1 hK.out).1
  have hvl:=(Array.getElem?_eq_some_iff.1 hv.out).1
  have hv7:W7.heap[w.heap.size]?=some (.cells #[v] 43 (0,0)):=(hg7.block _ hvl (fun e=>by have:=(hvb.out _ e.symm).1;omega)).trans hv.out
  have hK7:W7.heap[D]?=some (.deferred (some [])):=(hg7.block _ hDl (fun e=>by
   obtain⟨_,cur,hc⟩:=hvb.out _ e.symm
   rw [hK.out] at hc
   cases hc)).trans hK.out
  have c7:=Zal hv7 0 (v:=v) rfl
  have bel7:Below w.heap.size w W7:=hI.out.bel.grown hg7 hI.out.bel.size (fun k e=>by have:=(hvb.out _ e).1;omega)
  replace hv7:=Zaa hv7
  replace hK7:=Zaa hK7
  replace ho7:=Zaa ho7
  replace bel7:=Zaa bel7
  clear hg7
  gi_wp2_with (first|((with_reducible refine Zah 43 ?_);refine Zai 43 Zad rfl (ZmQ c7) ?_))
  have B77:=grownBy_putObj' W7 D (.deferred none)
  refine⟨by simp,.inl ⟨_,_,rfl,run_takeDeferred hK7.out,?_⟩⟩
  refine⟨_,results_tmp rfl _ _ _,v,rfl,?_,?_⟩
  ·have h1:W7.ownsRow w.heap.size 9 1 v (ZaE s).length ((ZaE s).map encStr):=by
    show World.ownsRow _ _ _ _ _ (ups (Zbq s)).length ((ups (Zbq s)).map encStr)
    unfold ups
    refine⟨ho7.out.1,?_⟩
    rcases ho7.out.2 with h|⟨g,cap,cur,q0,q1,q2⟩
    ·exact .inl h
    ·exact .inr ⟨g,cap,cur,q0,by omega,q2⟩
   exact Zc9 h1 (fun k cur _ e=>(B77.block k (Array.getElem?_eq_some_iff.1 e).1 (fun h=>by cases h;rw [hK7.out] at e;cases e)).trans e)
  ·exact bel7.out.grown B77 bel7.out.size (fun k e=>by cases e;omega)
 case stop=>rintro D cc pr Wd hD hS h;exact h.elim
end G
namespace G
open Go.RowKit Go.Shelf
def qA (o:Int)(t:Tx)(v:Value):Array Value:=#[.int .i64 o,encStr t,v]
def qV (o:Int)(t:Tx)(v:Value):Value:=.agg (qA o t v)
theorem sizeQ:(Tryz.prog.info? 30).map (·.size)=some 3:=by kernel_rfl
theorem infoQ:(Tryz.prog.info? 30).map (fun i=>(i.zero,i.size,i.bytes))=some (some (qV 0 [] (.slice none 0 0)),3,48):=by kernel_rfl
def Kq (w:World)(P:Nat->Prop):Qf->List Value->Prop
 | .nil,xs=>xs=[]
 | .cons o t kids rest,xs=>∃ v ys zs,xs=(qA o t v).toList++ys/\w.ownsRow 0 30 3 v kids.len zs/\(∀ b,v.ownBlock=some b->P b)/\Kq w P kids zs/\Kq w P rest ys
def QyV (w:World)(P:Nat->Prop)(x:Value)(q:Qy):Prop :=
 ∃ v zs,x=qV q.op q.tx v/\w.ownsRow 0 30 3 v q.l.len zs/\(∀ b,v.ownBlock=some b->P b)/\Kq w P q.l zs
theorem ZaC {w w':World}{base n:Nat}{v:Value}{xs:List Value}(h:w.ownsRow base 30 3 v n xs)(hb:∀ k,v.ownBlock=some k->w'.heap[k]?=w.heap[k]?):w'.ownsRow base 30 3 v n xs:=by
 refine⟨h.1,?_⟩
 rcases h.2 with h1|⟨g,cap,cur,rfl,h2,h3,h4⟩
 ·exact .inl h1
 ·exact .inr ⟨g,cap,cur,rfl,h2,(hb g rfl).trans h3,h4⟩
theorem ZbH {w:World}{base base' n:Nat}{v:Value}{xs:List Value}(h:w.ownsRow base 30 3 v n xs)(hb:base'<=base):w.ownsRow base' 30 3 v n xs:=by
 refine⟨h.1,?_⟩
 rcases h.2 with h1|⟨g,cap,cur,rfl,h2,h3⟩
 ·exact .inl h1
 ·exact .inr ⟨g,cap,cur,rfl,by omega,h3⟩
theorem Zaz {w:World}{base n:Nat}{v:Value}{xs:List Value}(h:w.ownsRow base 30 3 v n xs){k:Nat}(hk:v.ownBlock=some k):base<=k/\k<w.heap.size:=by
 rcases h.2 with⟨rfl,_⟩|⟨g,cap,cur,rfl,h2,h3,_⟩
 ·cases hk
 ·cases hk;exact⟨h2,(Array.getElem?_eq_some_iff.1 h3).1⟩
theorem Za8 {w:World}{base n:Nat}{v:Value}{xs:List Value}(h:w.ownsRow base 30 3 v n xs):∃ a cap,v=.slice a n cap/\n<=cap/\cap<=maxLen:=by
 rcases h.2 with⟨rfl,rfl⟩|⟨g,cap,cur,rfl,h2,h3,h4,h5,_⟩
 ·exact⟨none,0,rfl,Nat.le_refl _,Nat.zero_le _⟩
 ·exact⟨some ⟨g,0,none⟩,cap,rfl,h4,h5⟩
theorem Zcj {S:Nat->Prop}{w w':World}{base n:Nat}{v:Value}{xs:List Value}(h:w.ownsRow base 30 3 v n xs)(hk:Kc S w w')(hb:∀ b,v.ownBlock=some b->¬ S b):w'.ownsRow base 30 3 v n xs:=by
 refine⟨h.1,?_⟩
 rcases h.2 with h1|⟨g,cap,cur,rfl,h2,h3,h4⟩
 ·exact .inl h1
 ·exact .inr ⟨g,cap,cur,rfl,h2,hk.2 g _ _ _ (hb g rfl) h3,h4⟩
theorem Kq.kept {w w':World}{P:Nat->Prop}(hb:∀ b,P b->b<w.heap.size->w'.heap[b]?=w.heap[b]?):∀ {f:Qf}{xs:List Value},Kq w P f xs->Kq w' P f xs
 | .nil,_,h=>h
 | .cons o t kids rest,xs,⟨v,ys,zs,e,ow,p,k1,k2⟩=>⟨v,ys,zs,e,ZaC ow (fun k hk=>hb k (p k hk) (Zaz ow hk).2),p,Kq.kept hb k1,Kq.kept hb k2⟩
theorem Kq.mono {w:World}{P P':Nat->Prop}(hp:∀ b,b<w.heap.size->P b->P' b):∀ {f:Qf}{xs:List Value},Kq w P f xs->Kq w P' f xs
 | .nil,_,h=>h
 | .cons o t kids rest,xs,⟨v,ys,zs,e,ow,p,k1,k2⟩=>⟨v,ys,zs,e,ow,fun b hb=>hp b (Zaz ow hb).2 (p b hb),Kq.mono hp k1,Kq.mono hp k2⟩
theorem Kq.kc {S:Nat->Prop}{w w':World}(hk:Kc S w w'):∀ {f:Qf}{xs:List Value},Kq w (fun b=>¬ S b) f xs->Kq w' (fun b=>¬ S b) f xs
 | .nil,_,h=>h
 | .cons o t kids rest,xs,⟨v,ys,zs,e,ow,p,k1,k2⟩=>⟨v,ys,zs,e,Zcj ow hk p,p,Kq.kc hk k1,Kq.kc hk k2⟩
def Qf.snoc:Qf->Qy->Qf
 | .nil,q=>.cons q.op q.tx q.l .nil
 | .cons o t k r,q=>.cons o t k (r.snoc q)
theorem Kq.snoc {w:World}{P:Nat->Prop}{q:Qy}{v:Value}{zs:List Value}(ho:w.ownsRow 0 30 3 v q.l.len zs)(hp:∀ b,v.ownBlock=some b->P b)(hk:Kq w P q.l zs):∀ {f:Qf}{xs:List Value},Kq w P f xs->Kq w P (f.snoc q) (xs++(qA q.op q.tx v).toList)
 | .nil,xs,h=>by cases h;exact⟨v,[],zs,by simp,ho,hp,hk,rfl⟩
 | .cons o t kids rest,xs,⟨u,ys,us,e,ow,p,k1,k2⟩=>⟨u,ys++(qA q.op q.tx v).toList,us,by rw [e,List.append_assoc],ow,p,k1,Kq.snoc ho hp hk k2⟩
theorem Kq.nth {w:World}{P:Nat->Prop}:∀ {f:Qf}{xs:List Value},Kq w P f xs->∀ (i:Nat)(q:Qy),f.ls[i]?=some q->∃ v zs,(∀ j u,(qA q.op q.tx v)[j]?=some u->xs[i * 3+j]?=some u)/\w.ownsRow 0 30 3 v q.l.len zs/\(∀ b,v.ownBlock=some b->P b)/\Kq w P q.l zs
 | .nil,_,_,i,q,h=>by simp [Qf.ls] at h
 | .cons o t k r,xs,⟨v,ys,zs,e,ow,p,k1,k2⟩,0,q,h=>by
   have hq:(⟨o,t,k⟩:Qy)=q:=by simpa [Qf.ls] using h
   subst hq
   refine⟨v,zs,fun j u hj=>?_,ow,p,k1⟩
   rw [e,Nat.zero_mul,Nat.zero_add]
   have hj':j<3:=by
    have:=(Array.getElem?_eq_some_iff.1 hj).1
    simpa [qA] using this
   rw [List.getElem?_append_left (by simp [qA];exact hj')]
   simpa using hj
 | .cons o t k r,xs,⟨v,ys,zs,e,ow,p,k1,k2⟩,i+1,q,h=>by
   obtain⟨v',zs',h1,h2⟩:=Kq.nth k2 i q (by simpa [Qf.ls] using h)
   refine⟨v',zs',fun j u hj=>?_,h2⟩
   rw [e,List.getElem?_append_right (by simp [qA];omega)]
   have:=h1 j u hj
   simp only [qA,List.length_cons,List.length_nil]
   rw [show (i+1) * 3+j - (0+1+1+1)=i * 3+j by omega]
   exact this
theorem QyV.kept {w w':World}{P:Nat->Prop}{x:Value}{q:Qy}(h:QyV w P x q)(hb:∀ b,P b->b<w.heap.size->w'.heap[b]?=w.heap[b]?):QyV w' P x q:=by
 obtain⟨v,zs,e,o,p,k⟩:=h
 exact⟨v,zs,e,ZaC o (fun k hk=>hb k (p k hk) (Zaz o hk).2),p,k.kept hb⟩
theorem QyV.mono {w:World}{P P':Nat->Prop}{x:Value}{q:Qy}(h:QyV w P x q)(hp:∀ b,b<w.heap.size->P b->P' b):QyV w P' x q:=by
 obtain⟨v,zs,e,o,p,k⟩:=h
 exact⟨v,zs,e,o,fun b hb=>hp b (Zaz o hb).2 (p b hb),k.mono hp⟩
theorem ZiP {w:World}{ad:Addr}{v:Value}(h:w.cell? ad=some v):(loadVar 28 ad).run Tryz.prog w=.ok v w:=by
 have ha:∀ w,(isAgg 28).run Tryz.prog w=.ok false w:=fun w=>by kernel_rfl
 simp [loadVar,ha,go_sem,h]
end G
section
open Go.RowKit Go.Shelf Go.Lib
shelf_lay Lays.n169 Nm 169 at Tryz as Tryz.laysST
theorem extraST:Builder.Extra Tryz.prog Tryz.laysST_ren where
 sizeBuilder:=by kernel_rfl
 liesBuilder:=by kernel_rfl
 t5:=Tryz.underlying5
 a5:=Tryz.isAgg5
 z5:=Tryz.sizeOf5
 v5:=Tryz.zeroValue5
 infoByte:=by kernel_rfl
 cellsByte:=by kernel_rfl
 sizeByte:=by kernel_rfl
 neB5:=by decide
theorem size41:(Tryz.prog.info? 133).map (·.size)=some 2:=by kernel_rfl
theorem st_any (B b:Nat)(l:List UInt8)(w:World)(h:IsBuilder 133 5 B b (byteCells l) w)(hBw:B<=w.heap.size) :
  Calls Tryz.prog 75 #[.pointer (some ⟨b,0,none⟩)] w fun e w'=>e=.returned (.string ⟨l.toArray⟩)/\Below B w w' :=
 Any.Builder_String_any Tryz.laysST extraST B b l w h hBw
set_option maxRecDepth 100000 in
theorem ZjP (B b:Nat)(bs:List Value)(w:World)(h:IsBuilder 133 5 B b bs w) :
  Calls Tryz.prog 127 #[.pointer (some ⟨b,0,none⟩)] w fun e w'=>e=.returned (.tuple #[])/\BuilderAt 133 5 B b (.pointer (some ⟨b,0,none⟩)) bs w'/\Below B w w'/\But (fun k=>k=b) w w':=by
 obtain⟨j,hj,hjs⟩:=Option.map_eq_some_iff.1 size41
 rcases h with h|h
 ·have fin:=Zaa (And.intro (h.used (.pointer (some ⟨b,0,none⟩))) (And.intro ((Below.refl B w).setCell (p:=⟨b,0,none⟩) h.1 (.pointer (some ⟨b,0,none⟩))) (⟨rfl,rfl,rfl,by simp [World.setCell],fun k hk hn=>Below.heap_setCell w ⟨b,0,none⟩ _ k hn⟩:But (fun k=>k=b) w (w.setCell ⟨b,0,none⟩ (.pointer (some ⟨b,0,none⟩))))))
  have c0:=h.cell0
  have f0:=h.frozen0
  have hsh:=Zaa h.shape
  clear h
  go_enter Tryz.func127,Tryz.ntmps127
  go_wp2
  rw [run_to_unsafe w ⟨b,0,none⟩ Tryz.underlying130 Tryz.underlying236 hj (by omega) hsh.out (show 0<2 by omega),Result.andThen_ok,Oper.upon_value]
  go_wp2
  rw [run_callFunc_extern Tryz.func178 (by kernel_rfl) (by kernel_rfl) (by kernel_rfl) (e:=Extern.AbiNoEscape.same) (by kernel_rfl),run_noEscape,Result.andThen_ok,Oper.upon_value]
  go_wp2
  rw [run_from_unsafe w ⟨b,0,none⟩ Tryz.underlying236 Tryz.underlying130 hj hsh.out extraST.liesBuilder,Result.andThen_ok,Oper.upon_value]
  go_wp2
  go_end0
  exact⟨rfl,fin.out⟩
 ·have c0:=h.cell0
  replace h:=Zaa h
  go_enter Tryz.func127,Tryz.ntmps127
  go_wp2
  rw [run_neq_ptr_same w _ Tryz.underlying130 hj]
  go_wp2
  go_end0
  exact⟨rfl,h.out,Below.refl B _,But.refl _ _⟩
theorem new_byte (w:World)(x:Value)(j:Nat)(u:Value)(h:[x][j]?=some u):(w.alloc (.cells #[x] 5)).cell? ((⟨w.heap.size,0,none⟩:Addr).add j)=some u:=by
 cases j with
 | zero =>
  rw [show (⟨w.heap.size,0,none⟩:Addr).add 0=⟨w.heap.size,0,none⟩ from rfl,cell_of_heap (heap_alloc_new w _)]
  simpa using h
 | succ j=>simp at h
theorem buffer {B b:Nat}{p:Value}{bs:List Value}{w:World}(h:BuilderAt 133 5 B b p bs w)(hBw:B<=w.heap.size) :
  ∃ v,w.cell? ⟨b,1,none⟩=some v/\∀ W,Below w.heap.size w W->W.ownsRow B 5 1 v bs.length bs /\
   ∀ w2 v' xs,W.grownBy w2 v.ownBlock->w2.ownsRow B 5 1 v' xs.length xs ->
    w2.cell? ⟨b,1,none⟩=some v/\w2.frozen? ⟨b,1,none⟩=false/\BuilderAt 133 5 B b p xs (w2.setCell ⟨b,1,none⟩ v')/\Below B w (w2.setCell ⟨b,1,none⟩ v')/\But (fun k=>k=b\/v.ownBlock=some k) w (w2.setCell ⟨b,1,none⟩ v')/\(∀ k,v.ownBlock=some k->k≠b/\∃ xs,w.heap[k]?=some (.cells xs 5 (0,0))):=by
 have hlt:=h.lt
 obtain⟨hB,v,hk,ho,hn⟩:=h
 refine⟨v,by rw [cell_of_heap hk];rfl,fun W hW=>⟨ho.kept (row:=none) ⟨hW.os,hW.tape,hW.output,hW.size,fun k hk _=>hW.block k hk⟩ (Classical.em _),fun w2 v' xs hg ho2=>?_⟩⟩
 have hs:=hW.size
 have h2:=(hg.block b (by omega) (fun e=>hn e.symm)).trans ((hW.block b hlt).trans hk)
 exact⟨by rw [cell_of_heap h2];rfl,frozen_of_heap h2 1,BuilderAt.put hB h2 ho2 (by decide),((hW.mono hBw).grown hg (by omega) (fun k hk=>(ho.lt k hk).1)).setCell (p:=⟨b,1,none⟩) hB _,((Zbd hW _ (fun k h1 h2=>by omega)).grown hg (fun k e _=>.inr e)).trans (T:=fun k=>k=b) ⟨rfl,rfl,rfl,by simp [World.setCell],fun k hk hn=>Below.heap_setCell w2 ⟨b,1,none⟩ _ k hn⟩ (fun i _ h=>.inl h),fun k hk=>⟨fun e=>hn (e ▸ hk),(by rcases ho.2 with⟨e,_⟩|⟨g,cp,cur,e,_,hg',_⟩;rw [e] at hk;cases hk;rw [e] at hk;cases hk;exact⟨cur,hg'⟩)⟩⟩
def Bz (b:Nat)(w w':World):Prop:=But (fun k=>k=b\/∃ xs fr,w.heap[k]?=some (.cells xs 5 fr)) w w'
theorem bz_of {b:Nat}{w w1 w2:World}{v:Value}(h1:But (fun k=>k=b) w w1)(h2:But (fun k=>k=b\/v.ownBlock=some k) w1 w2)(hv:∀ k,v.ownBlock=some k->k≠b/\∃ xs,w1.heap[k]?=some (.cells xs 5 (0,0))):Bz b w w2 :=
 (h1.mono (T:=fun k=>k=b\/∃ xs fr,w.heap[k]?=some (.cells xs 5 fr)) (fun k h=>.inl h)).trans h2 (fun i hi h=>by
  rcases h with h|h
  ·exact .inl h
  ·obtain⟨hne,xs,hx⟩:=hv i h
   exact .inr ⟨xs,(0,0),(h1.block i hi hne).symm.trans hx⟩)
set_option maxRecDepth 100000 in
theorem ZhA (B b:Nat)(l:List UInt8)(c:UInt8)(w:World)(h:IsBuilder 133 5 B b (byteCells l) w)(hlen:l.length+1<=140737488355328)(hBw:B<=w.heap.size) :
  Calls Tryz.prog 73 #[.pointer (some ⟨b,0,none⟩),.int .u8 (c.toNat:Int)] w fun e w'=>e=.returned .nilIface/\IsBuilder 133 5 B b (byteCells (l++[c])) w'/\Below B w w'/\Bz b w w':=by
 obtain⟨i0,hi,hz0,hz1,hz2⟩:=info_parts extraST.infoByte
 rw [<- byteCells_length l] at hlen
 rw [show byteCells (l++[c])=byteCells l++[.int .u8 (c.toNat:Int)] by simp [byteCells]]
 generalize byteCells l=bs at *
 go_enter Tryz.func73,Tryz.ntmps73
 go_wp2_with (go_at_call 127;refine (ZjP B b bs _ h).mono ?_)
 rintro e w1 ⟨rfl,h1,B1,Bu1⟩
 have hB1:B<=w1.heap.size:=by have:=B1.size;omega
 obtain⟨v,c1,hv⟩:=buffer h1 hB1
 obtain⟨o1,o2⟩:=hv _ ((Below.refl _ w1).alloc (Nat.le_refl _) (.cells #[.int .u8 (c.toNat:Int)] 5))
 replace o1:=Zaa o1
 replace o2:=Zaa o2
 replace B1:=Zaa B1
 replace Bu1:=Zaa Bu1
 clear h1 hv
 go_wp2_with (at_builtin;refine wpList_append_own _ rfl _ _ 131 rfl B 5 i0 (.int .u8 0) 1 1 Tryz.underlying131 hi hz0 hz1 hz2 rfl (by decide) _ _ _ rfl o1.out ⟨w1.heap.size,0,none⟩ 1 1 [.int .u8 (c.toNat:Int)] rfl rfl (new_byte w1 _) ?c2 ?c3 ?c4 ?c5 ?_)
 case c2=>intro u hu;rw [List.mem_singleton.1 hu];rfl
 case c3=>unfold maxLen;omega
 case c4=>omega
 case c5=>simp;omega
 intro v' w2 hv' hg _
 obtain⟨a,k,rfl⟩:∃ a k,v'=.slice a (bs.length+1) k:=by
  rcases hv'.2 with⟨_,h0⟩|⟨g,k,_,e,_⟩
  ·omega
  ·exact⟨_,k,e⟩
 obtain⟨d1,f1,r⟩:=o2.out w2 _ (bs++[.int .u8 (c.toNat:Int)]) hg (by simpa using hv')
 replace r:=Zaa r
 clear hv' hg
 go_wp2
 go_ret
 exact⟨rfl,.inr r.out.1,B1.out.trans r.out.2.1,bz_of Bu1.out r.out.2.2.1 r.out.2.2.2⟩
set_option maxRecDepth 100000 in
theorem ws_any (B b:Nat)(l:List UInt8)(s:ByteArray)(w:World)(h:IsBuilder 133 5 B b (byteCells l) w)(hlen:l.length+s.size<=140737488355328)(hBw:B<=w.heap.size) :
  Calls Tryz.prog 74 #[.pointer (some ⟨b,0,none⟩),.string s] w fun e w'=>e=.returned (.tuple #[.int .i64 s.size,.nilIface])/\IsBuilder 133 5 B b (byteCells (l++s.data.toList)) w'/\Below B w w'/\Bz b w w':=by
 obtain⟨i0,hi,hz0,hz1,hz2⟩:=info_parts extraST.infoByte
 rw [<- byteCells_length l] at hlen
 rw [show byteCells (l++s.data.toList)=byteCells l++strCells s by simp [byteCells,strCells]]
 generalize byteCells l=bs at *
 go_enter Tryz.func74,Tryz.ntmps74
 go_wp2_with (go_at_call 127;refine (ZjP B b bs _ h).mono ?_)
 rintro e w1 ⟨rfl,h1,B1,Bu1⟩
 have hB1:B<=w1.heap.size:=by have:=B1.size;omega
 obtain⟨v,c1,hv⟩:=buffer h1 hB1
 obtain⟨o1,o2⟩:=hv _ (Below.refl _ w1)
 replace o1:=Zaa o1
 replace o2:=Zaa o2
 replace B1:=Zaa B1
 replace Bu1:=Zaa Bu1
 clear h1 hv
 go_wp2_with (at_builtin;refine wpList_append_own_string _ rfl _ _ 131 9 rfl B 5 i0 Tryz.underlying131 Tryz.underlying9 hi hz0 hz1 hz2 _ _ _ rfl o1.out s rfl ?c3 ?c4 ?c5 ?_)
 case c3=>unfold maxLen;omega
 case c4=>omega
 case c5=>exact hB1
 intro v' w2 hv' hg _
 obtain⟨a,n,k,rfl⟩:∃ a n k,v'=.slice a n k:=by
  rcases hv'.2 with⟨e,_⟩|⟨g,k,_,e,_⟩
  ·exact⟨_,_,_,e⟩
  ·exact⟨_,_,_,e⟩
 obtain⟨d1,f1,r⟩:=o2.out w2 _ (bs++strCells s) hg (by simpa [strCells_length] using hv')
 replace r:=Zaa r
 clear hv' hg
 go_wp2
 go_ret2
 exact⟨rfl,.inr r.out.1,B1.out.trans r.out.2.1,bz_of Bu1.out r.out.2.2.1 r.out.2.2.2⟩
end
namespace G
open Go.RowKit Go.Shelf Go.Lib
theorem ZcA (dst:Option Nat)(ty:TypeId)(pos:String)(after:Array Edge)(ev:Operand->Value)(w:World):(execOp ev ⟨dst,.alloc 30,ty,pos,after,none⟩).run Tryz.prog w=.ok (.value (.pointer (some ⟨w.heap.size,0,none⟩))) (w.alloc (.cells (qA 0 [] (.slice none 0 0)) 30)):=by
 unfold execOp
 kernel_rfl
theorem ZeW (dst:Option Nat)(ty:TypeId)(pos:String)(after:Array Edge)(ev:Operand->Value)(x:Operand)(o:Int)(t:Tx)(l:Value)(hx:ev x=qV o t l)(w:World):(execOp ev ⟨dst,.box 30 x,ty,pos,after,none⟩).run Tryz.prog w=.ok (.value (.pointer (some ⟨w.heap.size,0,none⟩))) (w.alloc (.cells (qA o t l) 30)):=by
 unfold execOp
 simp only [hx]
 kernel_rfl
theorem ZaY {w:World}{g:Nat}{o:Int}{t:Tx}{l:Value}(h:w.heap[g]?=some (.cells (qA o t l) 30 (0,0))):(loadVar 30 ⟨g,0,none⟩).run Tryz.prog w=.ok (qV o t l) w :=
 run_loadVar_row w g 30 30 _ (0,0) _ h Tryz.underlying30 rfl sizeQ
theorem ZeX {w:World}{b off:Nat}{o:Int}{t:Tx}{l:Value}(h:∀ j v,(qA o t l)[j]?=some v->w.cell? ⟨b,off+j,none⟩=some v):(loadVar 30 ⟨b,off,none⟩).run Tryz.prog w=.ok (qV o t l) w:=by
 have h0:=h 0 _ rfl
 have h1:=h 1 _ rfl
 have h2:=h 2 _ rfl
 have hz:∀ w,(sizeOf 30).run Tryz.prog w=.ok 3 w:=fun w=>by kernel_rfl
 have ha:∀ w,(isAgg 30).run Tryz.prog w=.ok true w:=fun w=>by kernel_rfl
 simp only [Nat.add_zero] at h0
 simp [loadVar,hz,ha,loadCells,go_sem,h0,h1,h2,Zav]
 rfl
theorem ZeY {o:Int}{t:Tx}{v:Value}(hv:v.oneCell'=true):(qA o t v).all (·.oneCell')=true:=by
 have h1:∀ k n,(Value.int k n).oneCell'=true:=fun _ _=>rfl
 have h2:(encStr t).oneCell'=true:=rfl
 simp [qA,hv,h1,h2]
section
variable {S:Nat->Prop}{w0 w:World}{L:List Ent}{ops:Array Oper}{rest:List Oper}{a:Act}{Q:Exit->Act->World->Prop}{dst:Option Nat}{x y:Operand}{ty:TypeId}{pos:String}{after:Array Edge}
theorem Zcd (i:Nat)(H:St S w0 w L){b:Bool}{g:Nat}{o:Int}{t:Tx}{l:Value}(h:L[i]?=some (b,g,30,qA o t l))(hx:a.eval x=.pointer (some ⟨g,0,none⟩))
  (k:wpList Tryz.prog ops Q rest (a.put dst (qV o t l)) w):wpList Tryz.prog ops Q (⟨dst,.load 30 x,ty,pos,after,none⟩::rest) a w:=ZfR 30 hx (ZaY (H.get i h)) k
theorem Zbc (H:St S w0 w L)(h:∀ g w',St S w0 w' ((true,g,30,qA 0 [] (.slice none 0 0))::L)->w0.heap.size<=g->w.heap.size<=g->wpList Tryz.prog ops Q rest (a.put dst (.pointer (some ⟨g,0,none⟩))) w'):wpList Tryz.prog ops Q (⟨dst,.alloc 30,ty,pos,after,none⟩::rest) a w :=
 Zc1 30 _ H (fun w=>ZcA _ _ _ _ _ w) h
theorem ZaK (H:St S w0 w L){o:Int}{t:Tx}{l:Value}(hx:a.eval x=qV o t l)(h:∀ g w',St S w0 w' ((true,g,30,qA o t l)::L)->w0.heap.size<=g->w.heap.size<=g->wpList Tryz.prog ops Q rest (a.put dst (.pointer (some ⟨g,0,none⟩))) w'):wpList Tryz.prog ops Q (⟨dst,.box 30 x,ty,pos,after,none⟩::rest) a w:=by
 refine wpList_plain rfl fun K hK=>?_
 unfold Oper.wp
 rw [ZeW _ _ _ _ _ _ o t l hx,Oper.upon_value]
 exact hK _ _ (h _ _ (H.alloc 30 _) H.but.size (Nat.le_refl _))
theorem ZbY (i:Nat)(H:St S w0 w L){g:Nat}{o o':Int}{t t':Tx}{l l':Value}(h:L[i]?=some (true,g,30,qA o t l))(hx:a.eval x=.pointer (some ⟨g,0,none⟩))(hy:a.eval y=qV o' t' l')(hl:l'.oneCell'=true)
  (k:∀ w',St S w0 w' (L.set i (true,g,30,qA o' t' l'))->wpList Tryz.prog ops Q rest a w'):wpList Tryz.prog ops Q (⟨none,.store 30 x y,ty,pos,after,none⟩::rest) a w :=
 Zc2 i 30 H h hx hy sizeQ rfl (ZeY hl) k
theorem Zev (i j:Nat)(H:St S w0 w L){b:Bool}{g:Nat}{t:TypeId}{xs:Array Value}{v:Value}(h:L[i]?=some (b,g,t,xs))(hv:xs[j]?=some v)(hx:a.eval x=.pointer (some ⟨g,j,none⟩))(k:wpList Tryz.prog ops Q rest (a.put dst v) w):wpList Tryz.prog ops Q (⟨dst,.load 28 x,ty,pos,after,none⟩::rest) a w:=Zau 28 hx (ZiP (H.cell i j h hv)) k
end
def Kr (w w':World):Prop:=∀ (k:Nat)(cs:Array Value)(fr:Nat × Nat),w.heap[k]?=some (Obj.cells cs 30 fr)->w'.heap[k]?=some (Obj.cells cs 30 fr)
theorem Kr.refl (w:World):Kr w w:=fun _ _ _ h=>h
theorem Kr.trans {a b c:World}(h:Kr a b)(k:Kr b c):Kr a c:=fun i cs fr e=>k i cs fr (h i cs fr e)
theorem Kr.below {w w':World}{B:Nat}(h:Below B w w')(hB:w.heap.size<=B):Kr w w':=fun k cs fr e=>(h.block k (by have:=(Array.getElem?_eq_some_iff.1 e).1;omega)).trans e
theorem isB_at {B b:Nat}{bs:List Value}{w:World}(h:IsBuilder 133 5 B b bs w):∃ cs,w.heap[b]?=some (.cells cs 133 (0,0)):=by
 rcases h with⟨_,v,hb,_⟩|⟨_,v,hb,_⟩ <;> exact⟨_,hb⟩
theorem Kr.bz {w w':World}{B b:Nat}{bs:List Value}(hb:Bz b w w')(hi:IsBuilder 133 5 B b bs w):Kr w w':=fun k cs fr e=>by
 obtain⟨c0,h0⟩:=isB_at hi
 refine (hb.block k (Array.getElem?_eq_some_iff.1 e).1 (fun h=>?_)).trans e
 rcases h with rfl|⟨xs,f,h⟩
 ·rw [h0] at e;cases e
 ·rw [h] at e;cases e
theorem ZdJ {w w':World}{base n:Nat}{v:Value}{xs:List Value}(h:w.ownsRow base 30 3 v n xs)(hk:Kr w w'):w'.ownsRow base 30 3 v n xs:=by
 refine⟨h.1,?_⟩
 rcases h.2 with h1|⟨g,cap,cur,rfl,h2,h3,h4⟩
 ·exact .inl h1
 ·exact .inr ⟨g,cap,cur,rfl,h2,hk g _ _ h3,h4⟩
theorem Kq.kr {w w':World}{P:Nat->Prop}(hk:Kr w w'):∀ {f:Qf}{xs:List Value},Kq w P f xs->Kq w' P f xs
 | .nil,_,h=>h
 | .cons o t kids rest,xs,⟨v,ys,zs,e,ow,p,k1,k2⟩=>⟨v,ys,zs,e,ZdJ ow hk,p,Kq.kr hk k1,Kq.kr hk k2⟩
theorem QyV.kr {w w':World}{P:Nat->Prop}{x:Value}{q:Qy}(h:QyV w P x q)(hk:Kr w w'):QyV w' P x q:=by
 obtain⟨v,zs,e,o,p,k⟩:=h
 exact⟨v,zs,e,ZdJ o hk,p,k.kr hk⟩
theorem bz_refl (b:Nat)(w:World):Bz b w w:=But.refl _ _
theorem ZjQ {b:Nat}{u v w:World}(h:Bz b u v)(k:Bz b v w):Bz b u w:=But.trans h k (fun i hi ht=>by
 by_cases hs:i=b\/∃ xs fr,u.heap[i]?=some (.cells xs 5 fr)
 ·exact hs
 ·rcases ht with rfl|⟨xs,fr,e⟩
  ·exact .inl rfl
  ·exact .inr ⟨xs,fr,(h.block i hi hs).symm.trans e⟩)
theorem bz_below {b B:Nat}{w w':World}(h:Below B w w')(hB:w.heap.size<=B):Bz b w w':=Zbd h _ (fun k h1 h2=>by omega)
structure Tw (B b:Nat) (l:Tx) (w w':World):Prop where
 ib:IsBuilder 133 5 B b (Go.Lib.byteCells l) w'
 bel:Below B w w'
 bz:Bz b w w'
theorem ZmS {B b:Nat}{bs:List Value}{W W':World}(h:IsBuilder 133 5 B b bs W)(hs:∀ (k:Nat)(xs:Array Value)(t:TypeId)(fr:Nat × Nat),W.heap[k]?=some (Obj.cells xs t fr)->W'.heap[k]?=some (Obj.cells xs t fr)):IsBuilder 133 5 B b bs W':=by
 have one:∀ p,BuilderAt 133 5 B b p bs W->BuilderAt 133 5 B b p bs W':=fun p ⟨hB,v,hb,ho,hn⟩=>by
  refine⟨hB,v,hs b _ _ _ hb,⟨ho.1,?_⟩,hn⟩
  rcases ho.2 with h1|⟨g,cp,cur,rfl,h2,h3,h4⟩
  ·exact .inl h1
  ·exact .inr ⟨g,cp,cur,rfl,h2,hs g _ _ _ h3,h4⟩
 rcases h with h|h
 ·exact .inl (one _ h)
 ·exact .inr (one _ h)
theorem ZbI {B C b:Nat}{bs:List Value}{W W':World}(h:IsBuilder 133 5 B b bs W)(hb:Below C W W')(hC:W.heap.size<=C):IsBuilder 133 5 B b bs W':=ZmS h (fun k xs t fr e=>(hb.block k (by have:=(Array.getElem?_eq_some_iff.1 e).1;omega)).trans e)
theorem Tw.refl {B b:Nat}{l:Tx}{w:World}(h:IsBuilder 133 5 B b (Go.Lib.byteCells l) w):Tw B b l w w:=⟨h,Below.refl _ _,bz_refl _ _⟩
theorem Tw.trans {B b:Nat}{l m:Tx}{u v w:World}(h:Tw B b l u v)(k:Tw B b m v w):Tw B b m u w:=⟨k.ib,h.bel.trans k.bel,ZjQ h.bz k.bz⟩
theorem Tw.ahead {B C b:Nat}{m:Tx}{u v w:World}(h:Below C u v)(hC:u.heap.size<=C)(hB:B<=C)(k:Tw B b m v w):Tw B b m u w:=⟨k.ib,(h.mono hB).trans k.bel,ZjQ (bz_below h hC) k.bz⟩
theorem Tw.of {B b:Nat}{l:Tx}{w w':World}(h:IsBuilder 133 5 B b (Go.Lib.byteCells l) w'/\Below B w w'/\Bz b w w'):Tw B b l w w':=⟨h.1,h.2.1,h.2.2⟩
def ZhB (q:Qy):Prop:=∀ (B b:Nat)(l:Tx)(P:Nat->Prop)(x:Value)(w:World),IsBuilder 133 5 B b (Go.Lib.byteCells l) w->B<=w.heap.size->QyV w P x q->l.length+q.tell.length<=1000000000 ->
 Calls Tryz.prog 95 #[.pointer (some ⟨b,0,none⟩),x] w fun e w'=>e=.returned (.tuple #[])/\Tw B b (l++q.tell) w w'
theorem ZkG (a:List Tx)(t:Tx):Za1 (a++[t])=if a=[] then t else Za1 a++32::t:=by
 induction a with
 | nil=>rfl
 | cons x r ih =>
  cases r with
  | nil=>simp [Za1]
  | cons y s =>
   show x++32::Za1 ((y::s)++[t])=_
   rw [ih]
   simp [Za1]
theorem ZhC:∀ (a b:List Tx),(Za1 a).length<=(Za1 (a++b)).length
 | [],b=>by simp [Za1]
 | x::[],b=>by rw [List.cons_append,Zby,Zby];simp [Zfh]
 | x::y::s,b=>by
  have:=ZhC (y::s) b
  rw [List.cons_append,Zby,Zby]
  show (x++32::Za1 (y::s)).length<=(x++32::Za1 ((y::s)++b)).length
  simp only [List.length_append,List.length_cons] at *
  omega
theorem ZmT (f:Qf):f.tells.length=f.len:=by rw [Zgd,List.length_map,ZdE]
theorem ZcU {w:World}{base n:Nat}{v:Value}{xs:List Value}(h:w.ownsRow base 30 3 v n xs):v.oneCell'=true:=by
 rcases h.2 with⟨rfl,_⟩|⟨_,_,_,rfl,_⟩ <;> rfl
theorem Zgq {w:World}{P:Nat->Prop}{f:Qf}{va:Option Addr}{vc:Nat}{zs:List Value}(ho:w.ownsRow 0 30 3 (.slice va f.len vc) f.len zs)(hk:Kq w P f zs)(k:Nat)(q:Qy)(hq:f.ls[k]?=some q) :
  ∃ g cv,va=some ⟨g,0,none⟩/\cv.oneCell'=true/\∀ w',Kr w w'->QyV w' P (qV q.op q.tx cv) q/\(loadVar 30 ⟨g,k * 3,none⟩).run Tryz.prog w'=.ok (qV q.op q.tx cv) w':=by
 obtain⟨cv,czs,hcells,cho,chp,chk⟩:=Kq.nth hk k q hq
 rcases ho.2 with⟨h1,h2⟩|⟨b,cap',cur,hv,_,hgb,_⟩
 ·have:=(List.getElem?_eq_some_iff.1 hq).1
  rw [ZdE] at this
  omega
 ·cases hv
  refine⟨b,cv,rfl,ZcU cho,fun w' hb=>⟨⟨cv,czs,rfl,ZdJ cho hb,chp,chk.kr hb⟩,?_⟩⟩
  refine ZeX (fun i u hi=>?_)
  have:=(ZdJ ho hb).cells (g:=b) rfl _ _ (hcells i u hi)
  rwa [Zav,Nat.zero_add] at this
end G
namespace G
open Go.RowKit Go.Shelf Go.Lib
theorem ZfC:∀ ts:List Tx,ts.length<=(Za1 ts).length+1
 | []=>by simp
 | [t]=>by simp
 | t::y::r=>by
  have:=ZfC (y::r)
  show _<=(t++32::Za1 (y::r)).length+1
  simp only [List.length_append,List.length_cons] at *
  omega
theorem ZkH {f:Qf}(hq:∀ q ∈ f.ls,ZhB q){k:Nat}{q:Qy}(h:f.ls[k]?=some q):ZhB q:=hq q (List.mem_of_getElem? h)
set_option maxRecDepth 100000 in
theorem ZiQ (f:Qf)(hq:∀ q ∈ f.ls,ZhB q)(o c:UInt8)(B b:Nat)(l:Tx)(P:Nat->Prop)(v:Value)(zs:List Value)(w:World)
  (hi:IsBuilder 133 5 B b (Go.Lib.byteCells l) w) (hB:B<=w.heap.size) (ho:w.ownsRow 0 30 3 v f.len zs) (hk:Kq w P f zs) (hl:l.length+(Za1 f.tells).length+2<=1000000000) :
  Calls Tryz.prog 147 #[.pointer (some ⟨b,0,none⟩),.int .u8 (o.toNat:Int),v,.int .u8 (c.toNat:Int)] w fun e w'=>e=.returned (.tuple #[])/\Tw B b (l++o::(Za1 f.tells++[c])) w w':=by
 obtain⟨va,vc,rfl,_,hvm⟩:=Za8 ho
 have child:=Zaa (fun k q h=>Zgq ho hk k q h)
 have htl:=ZmT f
 have hfl:f.len<=1099511627776:=by have:=ZfC f.tells;omega
 replace hq:=Zaa hq
 clear ho hk
 go_enter Tryz.func147,Tryz.ntmps147
 go_wp2_with (go_at_call 73;refine (ZhA B b l o w hi (by omega) hB).mono ?_)
 rintro e w1 ⟨rfl,h1⟩
 have T1:=Zaa (Tw.of h1)
 clear h1
 go_wp2
 go_loopw [15] (fun iv wr=>∃ k:Nat,k<=f.len/\iv=.int .i64 (k:Int)/\Hid (Tw B b (l++o::Za1 (f.tells.take k)) w wr)) (fun iv _=>f.len - (intOf iv).toNat)
 case atStart=>exact⟨0,Nat.zero_le _,rfl,by show Tw _ _ _ _ _;simpa [Za1] using T1.out⟩
 case round =>
  obtain⟨k,hk,rfl,T⟩:=hrel
  by_cases hlt:k<f.len
  ·have i3:(k:Int)<(f.len:Int):=by omega
   obtain⟨q,hqk⟩:∃ q,f.ls[k]?=some q:=⟨_,List.getElem?_eq_getElem (by rw [ZdE];exact hlt)⟩
   obtain⟨g,cv,hva,hcv,hch⟩:=child.out k q hqk
   subst hva
   have hqt:f.tells[k]?=some q.tell:=by rw [Zgd,List.getElem?_map,hqk];rfl
   have htk:f.tells.take (k+1)=f.tells.take k++[q.tell]:=by rw [List.take_add_one,hqt];rfl
   have hjs:Za1 (f.tells.take (k+1))=if f.tells.take k=[] then q.tell else Za1 (f.tells.take k)++32::q.tell:=by rw [htk,ZkG]
   have hjl:(Za1 (f.tells.take (k+1))).length<=(Za1 f.tells).length:=by
    have:=ZhC (f.tells.take (k+1)) (f.tells.drop (k+1))
    rwa [List.take_append_drop] at this
   have hnil:f.tells.take k=[]↔k=0:=by
                          rw [List.take_eq_nil_iff];constructor;· rintro (h|h);exact h;rw [h] at htl;simp at htl;omega
                          ·exact .inl
   have hQ:=Zaa (ZkH hq.out hqk)
   have hT:=T.out
   have hkr:Kr w wr:=(Kr.bz hT.bz hi)
   have hsw:B<=wr.heap.size:=by have:=hT.bel.size;omega
   obtain⟨hQV,hld⟩:=hch wr hkr
   have hch':=Zaa hch
   replace hQV:=Zaa hQV
   have H:=St.start Nope wr
   have hjs0:k=0->Za1 (f.tells.take (k+1))=q.tell:=fun h=>by rw [hjs,if_pos (hnil.2 h)]
   have hjs1:k≠0->Za1 (f.tells.take (k+1))=Za1 (f.tells.take k)++32::q.tell:=fun h=>by rw [hjs,if_neg (fun h2=>h (hnil.1 h2))]
   clear hjs
   replace htk:=Zaa htk
   replace hnil:=Zaa hnil
   replace hkr:=Zaa hkr
   clear hch hqt
   by_cases hk0:k=0
   ·have hjs:=Zaa (hjs0 hk0)
    clear hjs0 hjs1
    rw [hjs.out] at hjl
    subst hk0
    obtain⟨m,hm⟩:∃ m,m=l++o::Za1 (f.tells.take 0):=⟨_,rfl⟩
    have hml:m.length=l.length+1:=by rw [hm];simp [Za1]
    rw [<- hm] at hT T
    replace hm:=Zaa hm
    clear hT
    go_wp2_with (first|((with_reducible refine Zac 30 ?_);refine Zau 30 rfl hld ?_)|((with_reducible refine Zae 30 ?_);refine Zbc H ?_;clear H;intro g9 w9 H q1 q2)|((with_reducible refine Zab 30 ?_);refine ZbY 0 H rfl rfl rfl hcv ?_;clear H;intro w10 H;have hb10:=H.below;have hg9:=H.get 0 rfl;have hx11:=Zaa (hch'.out _ (hkr.out.trans (Kr.below hb10 (Nat.le_refl _)))).1;have i11:=Zaa (ZbI T.out.ib hb10 (Nat.le_refl _));have s11:B<=w10.heap.size:=by (have:=hb10.size;omega))|((with_reducible refine Zac 30 ?_);refine Zau 30 rfl (ZaY hg9) ?_)|(go_at_call 95;refine (hQ.out B b m P _ _ i11.out s11 hx11.out (by omega)).mono ?_))
    intro e w12 he T12
    subst he
    have T13:Hid (Tw B b (l++o::Za1 (f.tells.take (0+1))) w w12):=by
     have:=T.out.trans (Tw.ahead hb10 (Nat.le_refl _) (by omega) T12)
     rw [hm.out] at this
     rw [hjs.out]
     show Tw _ _ _ _ _
     simpa [Za1] using this
    clear T12
    go_wp2
    go_roundw
    case rel=>exact⟨0+1,by omega,by simp,T13⟩
    case measure=>simp [intOf];omega
   ·have i4:(0:Int)<(k:Int):=by omega
    have hjs:=Zaa (hjs1 hk0)
    clear hjs0 hjs1
    rw [hjs.out] at hjl
    simp only [List.length_append,List.length_cons] at hjl
    obtain⟨m,hm⟩:∃ m,m=l++o::Za1 (f.tells.take k):=⟨_,rfl⟩
    have hml:m.length=l.length+(Za1 (f.tells.take k)).length+1:=by rw [hm];simp;omega
    rw [<- hm] at hT T
    replace hm:=Zaa hm
    clear hT
    go_wp2_with (first|((with_reducible refine Zac 30 ?_);refine Zau 30 rfl hld ?_)|((with_reducible refine Zae 30 ?_);refine Zbc H ?_;clear H;intro g9 w9 H q1 q2)|((with_reducible refine Zab 30 ?_);refine ZbY 0 H rfl rfl rfl hcv ?_;clear H;intro w10 H))
    have hb10:=H.below
    go_wp2_with (go_at_call 73;refine (ZhA B b m 32 _ (ZbI T.out.ib hb10 (Nat.le_refl _)) (by omega) (by have:=hb10.size;omega)).mono ?_)
    rintro e w11 ⟨rfl,h11⟩
    have K11:=Kr.bz h11.2.2 (ZbI T.out.ib hb10 (Nat.le_refl _))
    have hg9:=K11 _ _ _ (H.get 0 rfl)
    have hx11:=Zaa (hch'.out w11 ((hkr.out.trans (Kr.below hb10 (Nat.le_refl _))).trans K11)).1
    have T11:=Zaa (Tw.ahead hb10 (Nat.le_refl _) (by omega) (Tw.of h11))
    have i11:=Zaa h11.1
    have s11:B<=w11.heap.size:=by have:=T11.out.bel.size;omega
    clear h11 K11 hb10 H
    go_wp2_with (first|((with_reducible refine Zac 30 ?_);refine Zau 30 rfl (ZaY hg9) ?_)|(go_at_call 95;refine (hQ.out B b (m++[32]) P _ w11 i11.out s11 hx11.out (by simp;omega)).mono ?_))
    rintro e w12 ⟨rfl,T12⟩
    have T13:Hid (Tw B b (l++o::Za1 (f.tells.take (k+1))) w w12):=by
     have:=T.out.trans (T11.out.trans T12)
     rw [hm.out] at this
     rw [hjs.out]
     show Tw _ _ _ _ _
     simpa using this
    clear T12
    go_wp2
    go_roundw
    case rel=>exact⟨k+1,by omega,by simp,T13⟩
    case measure=>simp [intOf];omega
  ·obtain rfl:k=f.len:=by omega
   have i3:¬ (f.len:Int)<(f.len:Int):=by omega
   rw [List.take_of_length_le (by omega)] at T
   have s2:B<=wr.heap.size:=by have:=T.out.bel.size;omega
   go_wp2_with (go_at_call 73;refine (ZhA B b _ c _ T.out.ib (by simp;omega) s2).mono ?_)
   intro e w12 he ha hb hc
   subst he
   have h12:=And.intro ha (And.intro hb hc)
   have T13:=Zaa (T.out.trans (Tw.of h12))
   clear h12
   go_wp2
   go_end0
   refine⟨rfl,?_⟩
   have:=T13.out
   simpa using this
end G
namespace G
open Go.RowKit Go.Shelf Go.Lib
theorem bars (t:Tx):((⟨#[124]⟩:ByteArray)++⟨t.toArray⟩++⟨#[124]⟩)=⟨(124::t++[124]).toArray⟩:=by
 apply ByteArray.ext
 simp [ByteArray.data_append]
theorem bars_any (B b:Nat)(l t:Tx)(w:World)(hi:IsBuilder 133 5 B b (Go.Lib.byteCells l) w)(hl:l.length+t.length+2<=1000000000)(hB:B<=w.heap.size) :
  Calls Tryz.prog 74 #[.pointer (some ⟨b,0,none⟩),.string ((⟨#[124]⟩:ByteArray)++⟨t.toArray⟩++⟨#[124]⟩)] w fun e w'=>e=.returned (.tuple #[.int .i64 ((t.length+2:Nat):Int),.nilIface])/\Tw B b (l++(124::t++[124])) w w':=by
 rw [bars]
 have hz:(⟨(124::t++[124]).toArray⟩:ByteArray).size=t.length+2:=by simp [ByteArray.size]
 refine (ws_any B b l _ w hi (by rw [hz];omega) hB).mono ?_
 rintro e w' ⟨rfl,h⟩
 rw [hz]
 obtain⟨h1,h2,h3⟩:=h
 refine⟨rfl,?_,h2,h3⟩
 simpa using h1
end G
namespace G
open Go.RowKit Go.Shelf Go.Lib
theorem sz_mem:∀ {f:Qf}{q:Qy},q ∈ f.ls->q.sz<=f.sz
 | .nil,q,h=>by simp [Qf.ls] at h
 | .cons o t k r,q,h=>by
  rcases List.mem_cons.1 h with rfl|h
  ·simp [Qf.sz,Qy.sz]
  ·have:=sz_mem h;simp only [Qf.sz];omega
set_option maxRecDepth 100000 in
theorem tell_any:∀ (N:Nat)(q:Qy),q.sz<=N->ZhB q:=by
 intro N
 induction N with
 | zero=>intro q h;simp [Qy.sz] at h
 | succ N ih =>
 rintro⟨o,t,f⟩ hN B b l P x w hi hB hx hl
 have hsub:∀ q ∈ f.ls,ZhB q:=fun q hq=>ih q (by
  have h1:=sz_mem hq
  simp only [Qy.sz] at *
  omega)
 obtain⟨v,zs,rfl,ho,hp,hk⟩:=hx
 obtain⟨va,vc,rfl,_,_⟩:=Za8 ho
 simp only [Qy.tell] at *
 have H:=St.start Nope w
 have TL:=Zaa (fun (c1 c2:UInt8) (w':World) (h:Below w.heap.size w w') (hl2:l.length+(Za1 f.tells).length+2<=1000000000)=>ZiQ f hsub c1 c2 B b l P _ zs w' (ZbI hi h (Nat.le_refl _)) (by have:=h.size;omega) (ZdJ ho (Kr.below h (Nat.le_refl _))) (hk.kr (Kr.below h (Nat.le_refl _))) hl2)
 have hiH:=Zaa hi
 clear ih hsub ho hp hk hN hi
 by_cases h0:o=0
 ·subst h0
  have hl2:l.length+1<=1000000000:=by simpa [Zcx] using hl
  rw [show Zcx 0 t f.tells=[42] from rfl] at *
  go_enter Tryz.func95,Tryz.ntmps95
  go_wp2_with (first|((with_reducible refine Zar 30 ?_);refine ZaK (o:=0) (t:=t) H rfl ?_;clear H;intro g3 w3 H q1 q2;have hb3:=H.below)|((with_reducible refine Zac 3 ?_);refine Zax 0 0 H (v:=.int .i64 0) rfl rfl rfl ?_)|(go_at_call 73;refine (ZhA B b l 42 _ (ZbI hiH.out hb3 (Nat.le_refl _)) (by omega) (by have:=hb3.size;omega)).mono ?_))
  rintro e w12 ⟨rfl,h12⟩
  have T13:=Zaa (Tw.ahead hb3 (Nat.le_refl _) hB (Tw.of h12))
  clear h12
  go_wp2
  go_end0
  exact⟨rfl,T13.out⟩
 by_cases h1:o=1
 ·subst h1
  have hl2:l.length+1<=1000000000:=by simpa [Zcx] using hl
  rw [show Zcx 1 t f.tells=[45] from rfl] at *
  go_enter Tryz.func95,Tryz.ntmps95
  go_wp2_with (first|((with_reducible refine Zar 30 ?_);refine ZaK (o:=1) (t:=t) H rfl ?_;clear H;intro g3 w3 H q1 q2;have hb3:=H.below)|((with_reducible refine Zac 3 ?_);refine Zax 0 0 H (v:=.int .i64 1) rfl rfl rfl ?_)|(go_at_call 73;refine (ZhA B b l 45 _ (ZbI hiH.out hb3 (Nat.le_refl _)) (by omega) (by have:=hb3.size;omega)).mono ?_))
  rintro e w12 ⟨rfl,h12⟩
  have T13:=Zaa (Tw.ahead hb3 (Nat.le_refl _) hB (Tw.of h12))
  clear h12
  go_wp2
  go_end0
  exact⟨rfl,T13.out⟩
 by_cases h2:o=2
 ·subst h2
  rw [show Zcx 2 t f.tells=124::t++[124] from rfl] at *
  have hl2:l.length+t.length+2<=1000000000:=by simp at hl;omega
  have WS:=Zaa (fun w' (h:Below w.heap.size w w')=>bars_any B b l t w' (ZbI hiH.out h (Nat.le_refl _)) hl2 (by have:=h.size;omega))
  go_enter Tryz.func95,Tryz.ntmps95
  go_wp2_with (first|((with_reducible refine Zar 30 ?_);refine ZaK (o:=2) (t:=t) H rfl ?_;clear H;intro g3 w3 H q1 q2;have hb3:=H.below)|((with_reducible refine Zac 3 ?_);refine Zax 0 0 H (v:=.int .i64 2) rfl rfl rfl ?_)|((with_reducible refine Zac 9 ?_);refine Zbn 0 1 H (v:=.string ⟨t.toArray⟩) rfl rfl rfl ?_)|(go_at_call 74;refine (WS.out _ hb3).mono ?_))
  rintro e w12 ⟨rfl,h12⟩
  have T13:=Zaa (Tw.ahead hb3 (Nat.le_refl _) hB h12)
  clear h12
  go_wp2
  go_end0
  exact⟨rfl,T13.out⟩
 by_cases h3:o=3
 ·subst h3
  rw [show Zcx 3 t f.tells=40::(Za1 f.tells++[41]) from rfl] at *
  have hl2:l.length+(Za1 f.tells).length+2<=1000000000:=by simp at hl;omega
  go_enter Tryz.func95,Tryz.ntmps95
  go_wp2_with (first|((with_reducible refine Zar 30 ?_);refine ZaK (o:=3) (t:=t) H rfl ?_;clear H;intro g3 w3 H q1 q2;have hb3:=H.below)|((with_reducible refine Zac 3 ?_);refine Zax 0 0 H (v:=.int .i64 3) rfl rfl rfl ?_)|((with_reducible refine Zac 28 ?_);refine Zev 0 2 H (v:=.slice va f.len vc) rfl rfl rfl ?_)|(go_at_call 147;refine (TL.out 40 41 _ hb3 hl2).mono ?_))
  rintro e w12 ⟨rfl,h12⟩
  have T13:=Zaa (Tw.ahead hb3 (Nat.le_refl _) hB h12)
  clear h12
  go_wp2
  go_end0
  exact⟨rfl,T13.out⟩
 by_cases h4:o=4
 ·subst h4
  rw [show Zcx 4 t f.tells=91::(Za1 f.tells++[93]) from rfl] at *
  have hl2:l.length+(Za1 f.tells).length+2<=1000000000:=by simp at hl;omega
  go_enter Tryz.func95,Tryz.ntmps95
  go_wp2_with (first|((with_reducible refine Zar 30 ?_);refine ZaK (o:=4) (t:=t) H rfl ?_;clear H;intro g3 w3 H q1 q2;have hb3:=H.below)|((with_reducible refine Zac 3 ?_);refine Zax 0 0 H (v:=.int .i64 4) rfl rfl rfl ?_)|((with_reducible refine Zac 28 ?_);refine Zev 0 2 H (v:=.slice va f.len vc) rfl rfl rfl ?_)|(go_at_call 147;refine (TL.out 91 93 _ hb3 hl2).mono ?_))
  rintro e w12 ⟨rfl,h12⟩
  have T13:=Zaa (Tw.ahead hb3 (Nat.le_refl _) hB h12)
  clear h12
  go_wp2
  go_end0
  exact⟨rfl,T13.out⟩
 ·rw [show Zcx o t f.tells=[] by simp [Zcx,h0,h1,h2,h3,h4],List.append_nil] at *
  have e0:(o == 0)=false:=by simpa using h0
  have e1:(o == 1)=false:=by simpa using h1
  have e2:(o == 2)=false:=by simpa using h2
  have e3:(o == 3)=false:=by simpa using h3
  have e4:(o == 4)=false:=by simpa using h4
  go_enter Tryz.func95,Tryz.ntmps95
  go_wp2_with (first|((with_reducible refine Zar 30 ?_);refine ZaK (o:=o) (t:=t) H rfl ?_;clear H;intro g3 w3 H q1 q2;have hb3:=H.below)|((with_reducible refine Zac 3 ?_);refine Zax 0 0 H (v:=.int .i64 o) rfl rfl rfl ?_))
  go_end0
  exact⟨rfl,Tw.ahead hb3 (Nat.le_refl _) hB (Tw.refl (ZbI hiH.out hb3 (Nat.le_refl _)))⟩
end G
namespace G
open Go.RowKit Go.Shelf Go.Lib
theorem new133 (w:World):IsBuilder 133 5 w.heap.size w.heap.size (Go.Lib.byteCells []) (w.alloc (.cells #[.pointer none,.slice none 0 0] 133)):=fresh_isBuilder 133 5 w
section
variable {S:Nat->Prop}{w0 w:World}{L:List Ent}{ops:Array Oper}{rest:List Oper}{a:Act}{Q:Exit->Act->World->Prop}{dst:Option Nat}{x y:Operand}{ty:TypeId}{pos:String}{after:Array Edge}
theorem ZmU (h:∀ g w',g=w.heap.size->IsBuilder 133 5 g g (Go.Lib.byteCells []) w'->Below w.heap.size w w'->w'.heap.size=w.heap.size+1->wpList Tryz.prog ops Q rest (a.put dst (.pointer (some ⟨g,0,none⟩))) w'):wpList Tryz.prog ops Q (⟨dst,.alloc 133,ty,pos,after,none⟩::rest) a w:=by
 have e:(execOp a.eval ⟨dst,.alloc 133,ty,pos,after,none⟩).run Tryz.prog w=.ok (.value (.pointer (some ⟨w.heap.size,0,none⟩))) (w.alloc (.cells #[.pointer none,.slice none 0 0] 133)):=by
  unfold execOp
  kernel_rfl
 refine wpList_plain rfl fun K hK=>?_
 unfold Oper.wp
 rw [e,Oper.upon_value]
 exact hK _ _ (h _ _ rfl (new133 w) ((Below.refl _ w).alloc (Nat.le_refl _) _) (by simp))
end
set_option maxRecDepth 100000 in
theorem ZjR (q:Qy)(P:Nat->Prop)(x:Value)(w:World)(hx:QyV w P x q)(hl:q.tell.length<=1000000000) :
  Calls Tryz.prog 49 #[x] w fun e w'=>e=.returned (encStr q.tell)/\Below w.heap.size w w':=by
 have TA:=Zaa (tell_any q.sz q (Nat.le_refl _))
 have hxH:=Zaa hx
 obtain⟨v,zs,rfl,ho,hp,hk⟩:=hx
 have H:=St.start Nope w
 have hone:=ZcU ho
 clear ho hp hk
 go_enter Tryz.func49,Tryz.ntmps49
 go_wp2_with (first|((with_reducible refine Zar 30 ?_);refine ZaK (o:=q.op) (t:=q.tx) H rfl ?_;clear H;intro g3 w3 H q1 q2)|((with_reducible refine Zae 133 ?_);refine ZmU ?_;intro gb w4 hgb ib4 B4 s4;have hb3:=H.below;have H4:=H.call B4 (Nat.le_refl _);have hb4:=H4.below;have hx4:=Zaa (hxH.out.kr (Kr.below hb4 (Nat.le_refl _)));replace ib4:=Zaa ib4;have hs4:gb<=w4.heap.size:=(by omega);have hgw:w.heap.size<=gb:=(by have:=hb3.size;omega);replace hgb:=Zaa hgb;replace s4:=Zaa s4)|((with_reducible refine Zac 30 ?_);refine Zcd 0 H4 rfl rfl ?_)|(go_at_call 95;refine (TA.out gb gb [] P _ _ ib4.out hs4 hx4.out (by simpa using hl)).mono ?_))
 rintro e w12 ⟨rfl,T12⟩
 have hs12:gb<=w12.heap.size:=by have:=T12.bel.size;omega
 have T12h:=Zaa T12
 clear T12
 go_wp2_with (go_at_call 75;refine (st_any gb gb _ _ T12h.out.ib hs12).mono ?_)
 rintro e w13 ⟨rfl,B13⟩
 go_wp2
 go_ret
 refine⟨rfl,?_⟩
 exact hb4.trans ((T12h.out.bel.trans B13).mono hgw)
end G
namespace G
open Go.RowKit Go.Shelf
attribute [local go_sem] Oper.semAt_some
theorem ZcB {w:World}{g:Nat}{o o':Int}{t t':Tx}{l l':Value}(h:w.heap[g]?=some (.cells (qA o t l) 30 (0,0)))(hl:l'.oneCell'=true):(storeVar 30 ⟨g,0,none⟩ (qV o' t' l')).run Tryz.prog w=.ok () (w.setRow g (qA o' t' l')) :=
 run_storeVar_row w g 30 30 _ _ h sizeQ rfl (ZeY hl)
theorem ZdK (o:Int)(t:Tx)(v:Value)(w:World):(Instr.buildSlice 28 1 #[(0,qV o t v)]).run Tryz.prog w=.ok (.slice (some ⟨w.heap.size,0,none⟩) 1 1) (w.alloc (.cells (qA o t v) 30)):=by kernel_rfl
section
variable {F:Fence}{n:Nat}{w w':World}{ops:Array Oper}{rest:List Oper}{a:Act}{Q:Exit->Act->World->Prop}{dst:Option Nat}{x y:Operand}{ty:TypeId}{pos:String}{after:Array Edge}
theorem ZbO {d:Nat}{ty2:TypeId}{pos2:String}{after2:Array Edge}(h:wpListIn F n Tryz.prog ops Q (⟨some d,.alloc 30,ty,pos,after,none⟩::⟨none,.store 30 (.tmp d) y,ty2,pos2,after2,none⟩::rest) a w):wpListIn F n Tryz.prog ops Q (⟨some d,.alloc 30,ty,pos,after,none⟩::⟨none,.store 30 (.tmp d) y,ty2,pos2,after2,none⟩::rest) a w:=h
theorem ZbP {d:Nat}{ty2:TypeId}{pos2:String}{after2:Array Edge}(hF:∀ f,F.fn f){o:Int}{t:Tx}{l:Value}(hl:l.oneCell'=true)(hd:∀ u,(a.put (some d) u).eval (.tmp d)=u)(hy:∀ u,(a.put (some d) u).eval y=qV o t l)(h:∀ g w',w'.heap[g]?=some (.cells (qA o t l) 30 (0,0))->Below w.heap.size w w'->w.heap.size<=g->wpListIn F n Tryz.prog ops Q rest (a.put (some d) (.pointer (some ⟨g,0,none⟩))) w'):wpListIn F n Tryz.prog ops Q (⟨some d,.alloc 30,ty,pos,after,none⟩::⟨none,.store 30 (.tmp d) y,ty2,pos2,after2,none⟩::rest) a w:=by
 refine ZaF hF (fun c=>nofun) (ZcA _ _ _ _ _ w) ?_
 have hg:=heap_alloc_new w (.cells (qA 0 [] (.slice none 0 0)) 30)
 have e:=ZcB hg (o':=o) (t':=t) (l':=l) hl
 refine Za4 (w':=(w.alloc (.cells (qA 0 [] (.slice none 0 0)) 30)).setRow w.heap.size (qA o t l)) hF (fun c=>nofun) ?_ (h _ _ (setRow_heap _ _ _ _ 30 (0,0) hg) ?_ (Nat.le_refl _))
 ·unfold execOp
  simp only [hd,hy,Instr.storeAt,Instr.sureAddr,Sem.run_bind,Sem.run_pure,Result.andThen_ok,e]
 ·refine⟨rfl,rfl,rfl,by simp,fun k hk=>?_⟩
  rw [setRow_other _ _ _ _ (by omega)]
  exact Below.heap_alloc _ _ _ hk
theorem ZjS {ps:Array (Nat × Operand)}{m:Nat}(h:wpListIn F n Tryz.prog ops Q (⟨dst,.buildSlice 28 m ps,ty,pos,after,none⟩::rest) a w):wpListIn F n Tryz.prog ops Q (⟨dst,.buildSlice 28 m ps,ty,pos,after,none⟩::rest) a w:=h
theorem ZjT (hF:∀ f,F.fn f){o:Int}{t:Tx}{l:Value}(hx:a.eval x=qV o t l)(k:∀ g w',w'.heap[g]?=some (.cells (qA o t l) 30 (0,0))->Below w.heap.size w w'->w.heap.size<=g->wpListIn F n Tryz.prog ops Q rest (a.put dst (.slice (some ⟨g,0,none⟩) 1 1)) w'):wpListIn F n Tryz.prog ops Q (⟨dst,.buildSlice 28 1 #[(0,x)],ty,pos,after,none⟩::rest) a w:=by
 refine ZaF hF (fun c=>nofun) (w':=w.alloc (.cells (qA o t l) 30)) ?_ (k _ _ (heap_alloc_new w _) ((Below.refl _ w).alloc (Nat.le_refl _) _) (Nat.le_refl _))
 unfold execOp
 simp only [List.map_toArray,List.map_cons,List.map_nil,hx,Sem.run_bind,ZdK,Result.andThen_ok,Sem.run_pure]
end
structure QP where
 q:Qy
 v:Value
 h:v.oneCell'=true
abbrev encP (x:QP):Value:=qV x.1.op x.1.tx x.2
abbrev encQ (x:QP):Array Value:=#[encP x]
def ZkI (va:Option Addr)(ms:List QP)(j:Nat)(w:World):Prop:=∀ x,ms[j]?=some x->∃ g,va=some ⟨g,0,none⟩/\x.2.oneCell'=true/\∀ w',Below w.heap.size w w'->(loadVar 30 ⟨g,j * 3,none⟩).run Tryz.prog w'=.ok (encP x) w'
abbrev QM:=QP × List QP
structure MsOk (X:Nat->Prop) (W:World) (op:Int) (va:Option Addr) (mss:List QM):Prop where
 row:∀ i y,mss[i]?=some y->∃ g,va=some ⟨g,0,none⟩/\∀ w',Kc X W w'->(loadVar 30 ⟨g,i * 3,none⟩).run Tryz.prog w'=.ok (encP y.1) w'
 mem:∀ y ∈ mss,∃ ua un uc,y.1.2=.slice ua un uc/\(y.1.1.op=op->un=y.2.length/\∀ j w',Kc X W w'->ZkI ua y.2 j w')/\(y.1.1.op≠op->y.2=[y.1])
abbrev flatM (mss:List QM):List QP:=mss.flatMap (·.2)
theorem Zek {X:Nat->Prop}{w w':World}(h:Below w.heap.size w w'):Kc X w w':=Kc.below h (Nat.le_refl _)
theorem ZmV {X:Nat->Prop}{W:World}{base:Nat}{f:Qf}{va:Option Addr}{vc:Nat}{zs:List Value}(ho:W.ownsRow base 30 3 (.slice va f.len vc) f.len zs)(hn:∀ b,(Value.slice va f.len vc).ownBlock=some b->¬ X b)(hk:Kq W (fun b=>¬ X b) f zs) :
  ∃ ms:List QP,ms.map (·.1)=f.ls/\(∀ x ∈ ms,QyV W (fun b=>¬ X b) (encP x) x.1/\x.2.oneCell'=true)/\∀ j x,ms[j]?=some x->∃ g,va=some ⟨g,0,none⟩/\∀ w',Kc X W w'->(loadVar 30 ⟨g,j * 3,none⟩).run Tryz.prog w'=.ok (encP x) w':=by
 have h1:∀ i:Fin f.ls.length,∃ z:QP,z.1=f.ls[i]/\QyV W (fun b=>¬ X b) (encP z) z.1/\∃ g,va=some ⟨g,0,none⟩/\∀ w',Kc X W w'->(loadVar 30 ⟨g,i.1 * 3,none⟩).run Tryz.prog w'=.ok (encP z) w':=fun i=>by
  obtain⟨cv,czs,hcells,cho,chp,chk⟩:=Kq.nth hk i.1 f.ls[i] (List.getElem?_eq_getElem i.2)
  refine⟨⟨f.ls[i],cv,ZcU cho⟩,rfl,⟨cv,czs,rfl,cho,chp,chk⟩,?_⟩
  rcases ho.2 with⟨h1,h2⟩|⟨b,cap',cur,hv,_,hgb,_⟩
  ·have h5:=ZdE f
   have h6:i.1<f.ls.length:=i.2
   omega
  ·cases hv
   refine⟨b,rfl,fun w' hb=>ZeX (fun j u hj=>?_)⟩
   have:=(Zcj ho hb hn).cells (g:=b) rfl _ _ (hcells j u hj)
   rwa [Zav,Nat.zero_add] at this
 obtain⟨c,hc⟩:=Classical.axiomOfChoice h1
 refine⟨List.ofFn (fun i:Fin f.ls.length=>c i),?_,?_,?_⟩
 ·apply List.ext_getElem
  ·simp
  ·intro i h1 h2
   simp only [List.getElem_map,List.getElem_ofFn]
   exact (hc _).1
 ·intro x hx
  obtain⟨i,rfl⟩:=(List.mem_ofFn).1 hx
  exact⟨(hc i).2.1,(c i).h⟩
 ·intro j x hj
  have hl:=(List.getElem?_eq_some_iff.1 hj).1
  rw [List.length_ofFn] at hl
  rw [List.getElem?_ofFn,dif_pos hl] at hj
  cases hj
  exact (hc ⟨j,hl⟩).2.2
theorem ZmW {α β:Type}(f:β->α){R:β->Prop}:∀ (l:List α),(∀ x ∈ l,∃ y,f y=x/\R y)->∃ ys:List β,ys.map f=l/\∀ y ∈ ys,R y
 | [],_=>⟨[],rfl,fun _ h=>(List.not_mem_nil h).elim⟩
 | x::r,h=>by
  obtain⟨y,e,hy⟩:=h x (by simp)
  obtain⟨ys,e2,hys⟩:=ZmW f r (fun z hz=>h z (by simp [hz]))
  refine⟨y::ys,by rw [List.map_cons,e,e2],fun z hz=>?_⟩
  rcases List.mem_cons.1 hz with rfl|hz
  ·exact hy
  ·exact hys z hz
theorem ZmX {X:Nat->Prop}{W:World}{base:Nat}{f:Qf}{va:Option Addr}{vc:Nat}{zs:List Value}(ho:W.ownsRow base 30 3 (.slice va f.len vc) f.len zs)(hn:∀ b,(Value.slice va f.len vc).ownBlock=some b->¬ X b)(hk:Kq W (fun b=>¬ X b) f zs)(op:Int) :
  ∃ mss:List QM,mss.length=f.len/\MsOk X W op va mss/\(flatM mss).map (·.1)=Zb0 op f.ls/\∀ x ∈ flatM mss,QyV W (fun b=>¬ X b) (encP x) x.1:=by
 obtain⟨ms,hm1,hm2,hm3⟩:=ZmV ho hn hk
 have step:∀ x ∈ ms,∃ y:QM,y.1=x/\((∃ ua un uc,y.1.2=.slice ua un uc/\(y.1.1.op=op->un=y.2.length/\∀ j w',Kc X W w'->ZkI ua y.2 j w')/\(y.1.1.op≠op->y.2=[y.1]))/\y.2.map (·.1)=(if y.1.1.op=op then y.1.1.l.ls else [y.1.1])/\∀ z ∈ y.2,QyV W (fun b=>¬ X b) (encP z) z.1):=fun x hx=>by
  obtain⟨hq,hone⟩:=hm2 x hx
  obtain⟨v,zs',e,o2,p2,k2⟩:=hq
  have e2:x.2=v:=by
   have:qA x.1.op x.1.tx x.2=qA x.1.op x.1.tx v:=by simpa [encP,qV] using e
   simpa [qA] using this
  obtain⟨ua,uc,hv,_,_⟩:=Za8 o2
  subst hv
  by_cases hop:x.1.op=op
  ·obtain⟨ns,n1,n2,n3⟩:=ZmV o2 p2 k2
   have hln:ns.length=x.1.l.len:=by rw [<- ZdE,<- n1,List.length_map]
   refine⟨(x,ns),rfl,⟨ua,x.1.l.len,uc,e2,fun _=>⟨hln.symm,fun j w' hw' z hz=>?_⟩,fun h=>(h hop).elim⟩,by rw [if_pos hop];exact n1,fun z hz=>(n2 z hz).1⟩
   obtain⟨g,hg,hl⟩:=n3 j z hz
   exact⟨g,hg,(n2 z (List.mem_of_getElem? hz)).2,fun w'' hb=>hl w'' (hw'.trans (Zek hb))⟩
  ·refine⟨(x,[x]),rfl,⟨ua,x.1.l.len,uc,e2,fun h=>(hop h).elim,fun _=>rfl⟩,by rw [if_neg hop];rfl,fun z hz=>?_⟩
   rw [List.mem_singleton.1 hz]
   exact (hm2 x hx).1
 obtain⟨mss,hs1,hs2⟩:=ZmW (fun y:QM=>y.1) ms step
 have hlen:mss.length=f.len:=by rw [<- ZdE,<- hm1,<- hs1];simp
 refine⟨mss,hlen,⟨fun i y hy=>?_,fun y hy=>(hs2 y hy).1⟩,?_,fun x hx=>?_⟩
 ·refine hm3 i y.1 ?_
  rw [<- hs1,List.getElem?_map,hy];rfl
 ·have:∀ mss:List QM,(∀ y ∈ mss,y.2.map (·.1)=(if y.1.1.op=op then y.1.1.l.ls else [y.1.1]))->(flatM mss).map (·.1)=Zb0 op (mss.map (·.1.1)):=fun mss=>by
   induction mss with
   | nil=>intro _;rfl
   | cons y r ih =>
    intro h
    simp only [flatM,List.flatMap_cons,List.map_append,List.map_cons,Zb0] at *
    rw [ih (fun z hz=>h z (by simp [hz])),h y (by simp)]
  rw [this mss (fun y hy=>(hs2 y hy).2.1),<- hm1,<- hs1,List.map_map]
  rfl
 ·obtain⟨y,hy,hxy⟩:=List.mem_flatMap.1 hx
  exact (hs2 y hy).2.2 x hxy
end G
namespace G
open Go.RowKit Go.Shelf
attribute [local go_sem] Oper.semAt_some
theorem Zd4 (mss:List QM)(k:Nat)(y:QM)(h:mss[k]?=some y):flatM (mss.take (k+1))=flatM (mss.take k)++y.2:=by
 rw [List.take_add_one,h]
 simp [flatM]
theorem ZmY (mss:List QM)(k:Nat):flatM (mss.take k) <+: flatM mss:=by
 refine⟨flatM (mss.drop k),?_⟩
 rw [<- List.flatMap_append,List.take_append_drop]
theorem pre_in {mss:List QM}{k:Nat}{y:QM}(h:mss[k]?=some y){j:Nat}{x:QP}(hx:y.2[j]?=some x):flatM (mss.take k)++y.2.take j++[x] <+: flatM mss:=by
 refine List.IsPrefix.trans ?_ (ZmY mss (k+1))
 rw [Zd4 mss k y h,List.append_assoc,List.prefix_append_right_inj]
 have:=List.take_prefix (j+1) y.2
 rwa [List.take_add_one,hx] at this
theorem ZmZ {mss:List QM}{k:Nat}{y:QM}{j:Nat}{x:QP}(hx:y.2[j]?=some x):flatM (mss.take k)++y.2.take j++[x]=flatM (mss.take k)++y.2.take (j+1):=by
 rw [List.append_assoc,List.take_add_one,hx];rfl
set_option maxRecDepth 100000 in
theorem ZkJ (X:Nat->Prop)(n:Nat)(hn:1<=n)(l Bl Bo:Nat)(op:Int)(va:Option Addr)(vc:Nat)(mss:List QM)(hX1:¬ X Bl)(hX2:¬ X Bo)(J Jx:List QP->World->Prop)
  (W:World) (hY:∀ pre x W1,J pre W1->pre++[x] <+: flatM mss->W.heap.size+0<=W1.heap.size->YieldAt Fence.wide (n - 1) Tryz.prog l (encQ x) W1 fun e W' =>
   KeepsFrom W.heap.size W1 W'/\((e=.returned (.bool true)/\J (pre++[x]) W'/\Kc X W1 W')\/(e=.returned (.bool false)/\Jx (pre++[x]) W')))
  (hJo:OwnFrom W.heap.size J) (hM:MsOk X W op va mss) (hlen:mss.length<=1000000)
  (hBl:W.heap[Bl]?=some (.cells #[.slice va mss.length vc] 28 (0,0))) (hBo:W.heap[Bo]?=some (.cells #[.int .i64 op] 3 (0,0))) (h0:J [] W) (hml:∀ y ∈ mss,y.2.length<=1000000) :
  CallsIn Fence.wide n Tryz.prog 218 #[.func (.yield l) #[] #[],.pointer (some ⟨Bl,0,none⟩),.pointer (some ⟨Bo,0,none⟩)] W fun e W'=>(∃ v,e=.returned v)/\((∃ ys,ys=flatM mss/\J ys W')\/(∃ pre,pre <+: flatM mss/\Jx pre W')):=by
 have c0:W.cell? ⟨Bl,0,none⟩=some (.slice va mss.length vc):=Zal hBl 0 rfl
 replace hY:=Zaa hY
 replace hJo:=Zaa hJo
 replace hM:=Zaa hM
 replace hml:=Zaa hml
 replace hBl:=Zaa hBl
 replace hBo:=Zaa hBo
 obtain⟨m,hm⟩:∃ m,mss.length=m:=⟨_,rfl⟩
 rw [hm] at c0 hlen
 replace hm:=Zaa hm
 refine callsIn_of_wp Tryz.func218 rfl trivial ?_ rfl
 simp only [Tryz.ntmps218,List.size_toArray,List.length_cons,List.length_nil,Nat.reduceAdd,Nat.reduceSub,Array.replicate_succ,Array.replicate_zero,List.push_toArray,List.append_toArray,List.nil_append,List.cons_append]
 gi_wp2_with (first|((with_reducible refine Zah 28 ?_);refine Zai 28 Zad rfl (ZiP c0) ?_))
 gi_loopw [11] (fun i wr=>∃ k:Nat,k<=m/\i=.int .i64 ((k:Nat):Int)/\Hid (J (flatM (mss.take k)) wr)/\Hid (Kc X W wr)) (fun i _=>m - (RowKit.intOf i).toNat)
 case atStart=>exact⟨0,Nat.zero_le _,rfl,by show J _ _;simpa using h0,Kc.refl _ _⟩
 case round =>
  obtain⟨k,hk,rfl,hJs,hKs⟩:=hrel
  by_cases hlt:k<m
  ·have i1:(k:Int)<(m:Int):=by omega
   obtain⟨y,hy⟩:∃ y,mss[k]?=some y:=⟨_,List.getElem?_eq_getElem (by rw [hm.out];exact hlt)⟩
   obtain⟨g,hva,hld⟩:=hM.out.row k y hy
   obtain⟨ua,un,uc,hy2,hA,hB⟩:=hM.out.mem y (List.mem_of_getElem? hy)
   have hyl2:=hml.out y (List.mem_of_getElem? hy)
   subst hva
   have hldH:=Zaa (hld wr hKs.out)
   clear hld
   replace hA:=Zaa hA
   replace hB:=Zaa hB
   have hyo:y.1.2.oneCell'=true:=by rw [hy2];rfl
   have cBo:=Zaa (hKs.out.2 Bo _ _ _ hX2 hBo.out)
   by_cases hop:y.1.1.op=op
   ·have hopb:(y.1.1.op == op)=true:=by simpa using hop
    obtain⟨hun,hrk⟩:=hA.out hop
    subst hun
    clear hop
    gi_wp2_with (first|((with_reducible refine Zah 30 ?_);refine Zai 30 Zad rfl hldH.out ?_)|((with_reducible refine ZbO ?_);refine ZbP (o:=y.1.1.op) (t:=y.1.1.tx) (l:=y.1.2) Zad hyo (fun _=>rfl) (fun _=>rfl) ?_;intro g5 w5 hb5 B5 q5;replace hb5:=Zaa hb5;replace B5:=Zaa B5)|((with_reducible refine Zah 30 ?_);refine Zai 30 Zad rfl (ZaY hb5.out) ?_)|((with_reducible refine ZjS ?_);refine ZjT (o:=y.1.1.op) (t:=y.1.1.tx) (l:=y.1.2) Zad rfl ?_;intro g6 w6 hb6 B6 q6;replace hb6:=Zaa hb6;replace B6:=Zaa B6;have cb5:=Zaa ((B6.out.block g5 (Array.getElem?_eq_some_iff.1 hb5.out).1).trans hb5.out);have cbo:=Zaa ((B6.out.block Bo (by have:=(Array.getElem?_eq_some_iff.1 cBo.out).1;have:=B5.out.size;omega)).trans ((B5.out.block Bo (Array.getElem?_eq_some_iff.1 cBo.out).1).trans cBo.out)))|((with_reducible refine Zah 3 ?_);refine Zai 3 Zad rfl (ld3 (Zal cb5.out 0 (v:=.int .i64 y.1.1.op) rfl)) ?_)|((with_reducible refine Zah 3 ?_);refine Zai 3 Zad rfl (ld3 (Zal cbo.out 0 (v:=.int .i64 op) rfl)) ?_)|((with_reducible refine Zah 28 ?_);refine Zai 28 Zad rfl (ZiP (Zal cb5.out 2 (v:=.slice ua y.2.length uc) (by rw [hy2];rfl))) ?_))
    have b56:=B5.out.trans (B6.out.mono B5.out.size)
    have jK:Hid (J (flatM (mss.take k)++y.2.take 0) w6):=by
     show J _ _
     simpa using ZaW hJo.out (ZaW hJo.out hJs.out B5.out) B6.out
    have kK:=Zaa (hKs.out.trans (Zek b56))
    have r0:=Zaa (hrk 0 w6 kK.out)
    have hstep:=Zaa (fun j W' (_:0<j) (hk:Kc X W W')=>hrk j W' hk)
    have hyl:Hid (y.2.length=y.2.length):=rfl
    clear hrk b56
    gi_loopw [25] (fun i wr=>∃ j:Nat,j<=y.2.length/\i=.int .i64 ((j:Nat):Int)/\Hid (J (flatM (mss.take k)++y.2.take j) wr)/\Hid (Kc X W wr)/\Hid (ZkI ua y.2 j wr)) (fun i _=>y.2.length - (RowKit.intOf i).toNat)
    case atStart=>exact⟨0,Nat.zero_le _,rfl,jK,kK,r0⟩
    case round =>
     obtain⟨j,hj,rfl,hJ2,hK2,hR2⟩:=hrel
     by_cases hlj:j<y.2.length
     ·have i5:(j:Int)<((y.2.length:Nat):Int):=by omega
      obtain⟨x,hx⟩:∃ x,y.2[j]?=some x:=⟨_,List.getElem?_eq_getElem (by rw [hyl.out];exact hlj)⟩
      obtain⟨gx,hua,hxo,hld⟩:=hR2.out x hx
      subst hua
      have hpre:=Zaa (pre_in hy hx)
      have htk:=Zaa (ZmZ (mss:=mss) (k:=k) hx)
      have hx2:=Zaa hx
      clear hx
      gi_wp2_with (first|((with_reducible refine Zah 30 ?_);refine Zai 30 Zad rfl (hld _ (Below.refl _ _)) ?_)|((with_reducible refine ZbO ?_);refine ZbP (o:=x.1.op) (t:=x.1.tx) (l:=x.2) Zad hxo (fun _=>rfl) (fun _=>rfl) ?_;intro g8 w8 hb8 B8 q8;obtain⟨fn,tmps,assign,body,hyy,hRR⟩:=hY.out _ x w8 (ZaW hJo.out hJ2.out B8) hpre.out (by have:=hK2.out.1;have:=B8.size;omega);simp only [encQ] at hyy)|((with_reducible refine Zah 30 ?_);refine Zai 30 Zad rfl (ZaY hb8) ?_))
      refine hRR.mono ?_
      rintro e W3 ⟨_,(⟨rfl,hJ3,hk3b⟩|⟨rfl,hJx3⟩)⟩
      ·have hJ3b:Hid (J (flatM (mss.take k)++y.2.take (j+1)) W3):=by
        show J _ _
        rw [<- htk.out];exact hJ3
       have hK3:=Zaa (hK2.out.trans ((Zek B8).trans hk3b))
       have hR3:=Zaa (hstep.out (j+1) W3 (by omega) hK3.out)
       clear hk3b hJ3
       gi_wp2
       go_roundw
       case rel=>exact⟨j+1,by omega,by simp,hJ3b,hK3,hR3⟩
       case measure=>simp [RowKit.intOf];omega
      ·gi_wp2
       refine bodyPost_ret (results_none rfl _ _ _) rfl ?_
       exact⟨⟨_,rfl⟩,.inr ⟨_,hpre.out,hJx3⟩⟩
     ·obtain rfl:j=y.2.length:=by omega
      have i5:¬ (((y.2.length:Nat):Int)<((y.2.length:Nat):Int)):=by omega
      rw [show y.2.take (y.2.length)=y.2 from List.take_of_length_le (by rw [hyl.out];exact Nat.le_refl _)] at hJ2
      have hJ4:Hid (J (flatM (mss.take (k+1))) wr):=by
       show J _ _
       rw [Zd4 mss k y hy];exact hJ2.out
      gi_wp2
      go_roundw
      case rel=>exact⟨k+1,by omega,by simp,hJ4,hK2⟩
      case measure=>simp [RowKit.intOf];omega
   ·have hopb:(y.1.1.op == op)=false:=by simpa using hop
    have hyB:=hB.out hop
    clear hop
    gi_wp2_with (first|((with_reducible refine Zah 30 ?_);refine Zai 30 Zad rfl hldH.out ?_)|((with_reducible refine ZbO ?_);refine ZbP (o:=y.1.1.op) (t:=y.1.1.tx) (l:=y.1.2) Zad hyo (fun _=>rfl) (fun _=>rfl) ?_;intro g5 w5 hb5 B5 q5;replace hb5:=Zaa hb5;replace B5:=Zaa B5)|((with_reducible refine Zah 30 ?_);refine Zai 30 Zad rfl (ZaY hb5.out) ?_)|((with_reducible refine ZjS ?_);refine ZjT (o:=y.1.1.op) (t:=y.1.1.tx) (l:=y.1.2) Zad rfl ?_;intro g6 w6 hb6 B6 q6;replace hb6:=Zaa hb6;replace B6:=Zaa B6;have cb5:=Zaa ((B6.out.block g5 (Array.getElem?_eq_some_iff.1 hb5.out).1).trans hb5.out);have cbo:=Zaa ((B6.out.block Bo (by have:=(Array.getElem?_eq_some_iff.1 cBo.out).1;have:=B5.out.size;omega)).trans ((B5.out.block Bo (Array.getElem?_eq_some_iff.1 cBo.out).1).trans cBo.out)))|((with_reducible refine Zah 3 ?_);refine Zai 3 Zad rfl (ld3 (Zal cb5.out 0 (v:=.int .i64 y.1.1.op) rfl)) ?_)|((with_reducible refine Zah 3 ?_);refine Zai 3 Zad rfl (ld3 (Zal cbo.out 0 (v:=.int .i64 op) rfl)) ?_))
    have b56:=B5.out.trans (B6.out.mono B5.out.size)
    have jK:Hid (J (flatM (mss.take k)++y.2.take 0) w6):=by
     show J _ _
     simpa using ZaW hJo.out (ZaW hJo.out hJs.out B5.out) B6.out
    have kK:=Zaa (hKs.out.trans (Zek b56))
    have hyl:Hid (y.2.length=1):=by show _=_;rw [hyB];rfl
    have r0:Hid (ZkI (some ⟨g6,0,none⟩) y.2 0 w6):=fun x hx=>by
     rw [hyB] at hx
     obtain rfl:y.1=x:=by simpa using hx
     exact⟨g6,rfl,hyo,fun w' hb=>by rw [Nat.zero_mul];exact ZaY ((hb.block g6 (Array.getElem?_eq_some_iff.1 hb6.out).1).trans hb6.out)⟩
    have hstep:Hid (∀ j W',0<j->Kc X W W'->ZkI (some ⟨g6,0,none⟩) y.2 j W'):=fun j W' hj _ x hx=>by
     have:=(List.getElem?_eq_some_iff.1 hx).1
     rw [hyl.out] at this
     omega
    replace hyB:=Zaa hyB
    clear b56
    gi_loopw [25] (fun i wr=>∃ j:Nat,j<=1/\i=.int .i64 ((j:Nat):Int)/\Hid (J (flatM (mss.take k)++y.2.take j) wr)/\Hid (Kc X W wr)/\Hid (ZkI (some ⟨g6,0,none⟩) y.2 j wr)) (fun i _=>1 - (RowKit.intOf i).toNat)
    case atStart=>exact⟨0,Nat.zero_le _,rfl,jK,kK,r0⟩
    case round =>
     obtain⟨j,hj,rfl,hJ2,hK2,hR2⟩:=hrel
     by_cases hlj:j<1
     ·have i5:(j:Int)<((1:Nat):Int):=by omega
      obtain⟨x,hx⟩:∃ x,y.2[j]?=some x:=⟨_,List.getElem?_eq_getElem (by rw [hyl.out];exact hlj)⟩
      obtain⟨gx,hua,hxo,hld⟩:=hR2.out x hx
      cases hua
      have hpre:=Zaa (pre_in hy hx)
      have htk:=Zaa (ZmZ (mss:=mss) (k:=k) hx)
      have hx2:=Zaa hx
      clear hx
      gi_wp2_with (first|((with_reducible refine Zah 30 ?_);refine Zai 30 Zad rfl (hld _ (Below.refl _ _)) ?_)|((with_reducible refine ZbO ?_);refine ZbP (o:=x.1.op) (t:=x.1.tx) (l:=x.2) Zad hxo (fun _=>rfl) (fun _=>rfl) ?_;intro g8 w8 hb8 B8 q8;obtain⟨fn,tmps,assign,body,hyy,hRR⟩:=hY.out _ x w8 (ZaW hJo.out hJ2.out B8) hpre.out (by have:=hK2.out.1;have:=B8.size;omega);simp only [encQ] at hyy)|((with_reducible refine Zah 30 ?_);refine Zai 30 Zad rfl (ZaY hb8) ?_))
      refine hRR.mono ?_
      rintro e W3 ⟨_,(⟨rfl,hJ3,hk3b⟩|⟨rfl,hJx3⟩)⟩
      ·have hJ3b:Hid (J (flatM (mss.take k)++y.2.take (j+1)) W3):=by
        show J _ _
        rw [<- htk.out];exact hJ3
       have hK3:=Zaa (hK2.out.trans ((Zek B8).trans hk3b))
       have hR3:=Zaa (hstep.out (j+1) W3 (by omega) hK3.out)
       clear hk3b hJ3
       gi_wp2
       go_roundw
       case rel=>exact⟨j+1,by omega,by simp,hJ3b,hK3,hR3⟩
       case measure=>simp [RowKit.intOf];omega
      ·gi_wp2
       refine bodyPost_ret (results_none rfl _ _ _) rfl ?_
       exact⟨⟨_,rfl⟩,.inr ⟨_,hpre.out,hJx3⟩⟩
     ·obtain rfl:j=1:=by omega
      have i5:¬ (((1:Nat):Int)<((1:Nat):Int)):=by omega
      rw [show y.2.take (1)=y.2 from List.take_of_length_le (by rw [hyl.out];exact Nat.le_refl _)] at hJ2
      have hJ4:Hid (J (flatM (mss.take (k+1))) wr):=by
       show J _ _
       rw [Zd4 mss k y hy];exact hJ2.out
      gi_wp2
      go_roundw
      case rel=>exact⟨k+1,by omega,by simp,hJ4,hK2⟩
      case measure=>simp [RowKit.intOf];omega
  ·obtain rfl:k=m:=by omega
   have i1:¬ ((k:Int)<(k:Int)):=by omega
   rw [List.take_of_length_le (by rw [hm.out];exact Nat.le_refl _)] at hJs
   gi_wp2
   go_end0
   exact⟨⟨_,rfl⟩,.inl hJs.out⟩
end G
namespace G
open Go.RowKit Go.Shelf Go.Maps Go.WideMaps
attribute [local go_sem] Oper.semAt_some
section
variable {F:Fence}{n:Nat}{w w':World}{ops:Array Oper}{rest:List Oper}{a:Act}{Q:Exit->Act->World->Prop}{dst:Option Nat}{x y:Operand}{ty:TypeId}{pos:String}{after:Array Edge}
theorem Zm0 (hF:∀ f,F.fn f){f:Fn}{xs ys:Array Value}(hx:a.eval x=.func f xs ys)(h:∀ g w',g=w.heap.size->w'.heap[g]?=some (.cells #[.func f xs ys] 98 (0,0))->Below w.heap.size w w'->w'.heap.size=w.heap.size+1->wpListIn F n Tryz.prog ops Q rest (a.put dst (.pointer (some ⟨g,0,none⟩))) w'):wpListIn F n Tryz.prog ops Q (⟨dst,.box 98 x,ty,pos,after,none⟩::rest) a w:=by
 have e:(execOp a.eval ⟨dst,.box 98 x,ty,pos,after,none⟩).run Tryz.prog w=.ok (.value (.pointer (some ⟨w.heap.size,0,none⟩))) (w.alloc (.cells #[.func f xs ys] 98)):=by
  unfold execOp
  simp only [hx]
  kernel_rfl
 exact ZaF hF (fun c=>nofun) e (h _ _ rfl (heap_alloc_new w _) ((Below.refl _ w).alloc (Nat.le_refl _) _) (by simp))
end
theorem ld98 {w:World}{ad:Addr}{v:Value}(h:w.cell? ad=some v):(loadVar 98 ad).run Tryz.prog w=.ok v w:=by
 have ha:∀ w,(isAgg 98).run Tryz.prog w=.ok false w:=fun w=>by kernel_rfl
 simp [loadVar,ha,go_sem,h]
theorem ld49 {w:World}{ad:Addr}{v:Value}(h:w.cell? ad=some v):(loadVar 49 ad).run Tryz.prog w=.ok v w:=by
 have ha:∀ w,(isAgg 49).run Tryz.prog w=.ok false w:=fun w=>by kernel_rfl
 simp [loadVar,ha,go_sem,h]
theorem ld243 {w:World}{ad:Addr}{v:Value}(h:w.cell? ad=some v):(loadVar 243 ad).run Tryz.prog w=.ok v w:=by
 have ha:∀ w,(isAgg 243).run Tryz.prog w=.ok false w:=fun w=>by kernel_rfl
 simp [loadVar,ha,go_sem,h]
abbrev tk (x:QP):Tx:=x.1.tell
structure DsQ (X:Nat->Prop) (V:World) (gy gt m l:Nat) (had:List Tx) (W:World):Prop where
 kc:Kc X V W
 y:W.heap[gy]?=some (.cells #[.func (.yield l) #[] #[]] 98 (0,0))
 t:W.heap[gt]?=some (.cells #[.map (some m)] 102 (0,0))
 s:SetT W m had
theorem DsQ.kc2 {X:Nat->Prop}{V:World}{gy gt m l:Nat}{had:List Tx}{W W':World}(h:DsQ X V gy gt m l had W)(hk:Kc X W W')(hy:¬ X gy)(ht:¬ X gt)(hm:W'.heap[m]?=W.heap[m]?):DsQ X V gy gt m l had W' :=
 ⟨h.kc.trans hk,hk.2 gy _ _ _ hy h.y,hk.2 gt _ _ _ ht h.t,h.s.block hm⟩
theorem DsQ.below {X:Nat->Prop}{V:World}{gy gt m l:Nat}{had:List Tx}{W W':World}(h:DsQ X V gy gt m l had W)(hb:Below W.heap.size W W'):DsQ X V gy gt m l had W' :=
 ⟨h.kc.trans (Zek hb),(hb.block gy (Array.getElem?_eq_some_iff.1 h.y).1).trans h.y,(hb.block gt (Array.getElem?_eq_some_iff.1 h.t).1).trans h.t,h.s.block (hb.block m h.s.lt)⟩
theorem Zm1 {α β:Type} [DecidableEq β] (f:α->β)(a b:List α):∀ had:List β,ZaL f had a <+: ZaL f had (a++b):=by
 induction a with
 | nil=>intro had;exact List.nil_prefix
 | cons x r ih =>
  intro had
  by_cases h:f x ∈ had
  ·simpa [ZaL,h] using ih had
  ·simpa [ZaL,h] using ih (f x::had)
theorem Zeh {α β:Type} [DecidableEq β] {f:α->β}{a L:List α}(h:a <+: L)(had:List β):ZaL f had a <+: ZaL f had L:=by
 obtain⟨b,rfl⟩:=h
 exact Zm1 f a b had
theorem QyV.kc {X:Nat->Prop}{w w':World}{x:Value}{q:Qy}(h:QyV w (fun b=>¬ X b) x q)(hk:Kc X w w'):QyV w' (fun b=>¬ X b) x q:=by
 obtain⟨v,zs,e,o,p,k⟩:=h
 exact⟨v,zs,e,Zcj o hk p,p,k.kc hk⟩
theorem QyV.weaken {X Y:Nat->Prop}{w:World}{x:Value}{q:Qy}(h:QyV w (fun b=>¬ Y b) x q)(hx:∀ k,X k->Y k):QyV w (fun b=>¬ X b) x q:=h.mono (fun b _ hb hb2=>hb (hx b hb2))
set_option maxRecDepth 100000 in
theorem ZcV (X0:Nat->Prop)(n:Nat)(h3:3<=n)(gs gk gf:Nat)(lb:Array Value)(L:List QP)(hLx:∀ x ∈ L,x.1.tell.length<=1000000000)(hLn:L.length<maxLen)(w:World)(hLQ:∀ x ∈ L,QyV w (fun b=>¬ X0 b) (encP x) x.1)
  (eg:∀ args w,(callFunc gf args).run Tryz.prog w=.ok (.enter gf args) w)
  (hs:w.heap[gs]?=some (.cells #[.func (.func gf) #[] lb] 243 (0,0))) (hk:w.heap[gk]?=some (.cells #[.func (.func 49) #[] #[]] 49 (0,0))) (hkB:¬ X0 gk)
  (hseq:∀ W,Below w.heap.size w W->SeqB 0 Fence.wide (n - 1) Tryz.prog gf lb encQ (fun _=>Kc (fun k=>X0 k/\k≠W.heap.size/\k≠W.heap.size+2)) (fun ys=>ys=L) (fun pre=>pre <+: L) (fun pre x=>pre++[x] <+: L) w) :
  SeqB 2 Fence.wide n Tryz.prog 217 #[.pointer (some ⟨gs,0,none⟩),.pointer (some ⟨gk,0,none⟩)] encQ (fun B=>Kc (fun k=>X0 k/\k≠B/\k≠B+2)) (fun ys=>ys=ZaL tk [] L) (fun pre=>pre <+: ZaL tk [] L) (fun pre x=>pre++[x] <+: ZaL tk [] L) w:=fun l J Jx V hV hJ hJx hYY hJ0=>by
 have hs0:=hV.size
 have cS:=Zal ((hV.block gs (Array.getElem?_eq_some_iff.1 hs).1).trans hs) 0 (v:=.func (.func gf) #[] lb) rfl
 have hkV:Hid (V.heap[gk]?=some (.cells #[.func (.func 49) #[] #[]] 49 (0,0))):=(hV.block gk (Array.getElem?_eq_some_iff.1 hk).1).trans hk
 have hkl:=(Array.getElem?_eq_some_iff.1 hk).1
 have hsl:=(Array.getElem?_eq_some_iff.1 hs).1
 have hsq:=Zaa (hseq V hV)
 have hLQV:=Zaa (fun x hx=>(hLQ x hx).kc (Zek hV))
 replace hYY:=Zaa hYY
 replace hJ:=Zaa hJ
 replace hJx:=Zaa hJx
 replace hJ0:=Zaa hJ0
 replace hLx:=Zaa hLx
 replace hLn:=Zaa hLn
 have hVH:=Zaa hV
 clear hs hk hseq hV hLQ
 show CallsIn Fence.wide n Tryz.prog 217 #[.func (.yield l) #[] #[],.pointer (some ⟨gs,0,none⟩),.pointer (some ⟨gk,0,none⟩)] V _
 have hmm:=@run_makeMap Tryz.prog
 refine callsIn_of_wp_marks Tryz.func217 rfl trivial ?_ rfl
 simp only [Tryz.ntmps217,List.size_toArray,List.length_cons,List.length_nil,Nat.reduceAdd,Nat.reduceSub,Array.replicate_succ,Array.replicate_zero,List.push_toArray,List.append_toArray,List.nil_append,List.cons_append]
 gi_wp2_with (first|((with_reducible refine Zbh 98 ?_);refine Zm0 Zad rfl ?_;intro gy w1 ey hy1 B1 s1;replace hy1:=Zaa hy1;replace B1:=Zaa B1)|((with_reducible refine ZaO 102 ?_);refine ZcS Zad ?_;intro gt w3 et ht3 B3 s3)|((with_reducible refine Zay 102 ?_);refine ZeT Zad ht3 rfl rfl ?_;intro w4 ht4 B4 s4;replace ht4:=Zaa ht4;(have bV4:Below V.heap.size V w4:=((B1.out.trans (((Below.refl _ w1).alloc (Nat.le_refl _) (.map #[] 0)).mono (by omega))).trans (B3.mono (by simp;omega))).trans (B4.below (B:=V.heap.size) (by simp at s3;omega) (fun k e=>by simp at et;omega)));(have cS4:=(bV4.cell (p:=⟨gs,0,none⟩) (by show gs<V.heap.size;omega)).trans cS))|((with_reducible refine Zah 243 ?_);refine Zai 243 Zad rfl (ld243 cS4) ?_))
 have sa:(w1.alloc (Obj.map #[] 0)).heap.size=w1.heap.size+1:=by simp
 have sz4:w4.heap.size=V.heap.size+3:=by omega
 have egt:gt=V.heap.size+1+1:=by omega
 subst ey
 subst egt
 have y4:w4.heap[V.heap.size]?=some (.cells #[.func (.yield l) #[] #[]] 98 (0,0)):=((B4.block _ (by omega) (fun e=>by omega)).trans ((B3.block _ (by omega)).trans (Below.heap_alloc _ _ _ (by omega)))).trans hy1.out
 have m4:SetT w4 (V.heap.size+1) []:=by
  have:=ZeS w1
  rw [s1] at this
  exact this.block ((B4.block _ (by omega) (fun e=>by omega)).trans (B3.block _ (by omega)))
 obtain⟨X,hXd⟩:∃ X:Nat->Prop,X=fun k=>X0 k/\k≠V.heap.size/\k≠V.heap.size+2:=⟨_,rfl⟩
 rw [<- hXd] at hsq hYY
 have nX:∀ k,X k->X0 k/\k≠V.heap.size/\k≠V.heap.size+2:=fun k h=>by rw [hXd] at h;exact h
 have I0:DsQ X V V.heap.size (V.heap.size+1+1) (V.heap.size+1) l [] w4:=⟨Kc.below bV4 (Nat.le_refl _),y4,ht4.out,m4⟩
 have J0:J [] w4:=ZaW hJ.out hJ0.out bV4
 have hy1X:¬ X V.heap.size:=fun h=>(nX _ h).2.1 rfl
 have hgtX:¬ X (V.heap.size+1+1):=fun h=>(nX _ h).2.2 rfl
 replace hXd:=Zaa hXd
 replace nX:=Zaa nX
 replace y4:=Zaa y4
 have hb0:=hVH.out.trans (bV4.mono hVH.out.size)
 clear B4 B3 cS4 cS m4 et sa s1 s3 s4
 replace sz4:=Zaa sz4
 refine ZbG rfl (by omega) (gf:=gf) (lb:=lb) rfl (Zad gf) eg hsq.out
  (fun h k=>h.trans k) (fun Wd l o o' hl ho hc _=>⟨by simp [World.putObj],fun k cs t fr _ e=>(World.putObj_heap_other (fun h=>by rw [h,ho] at e;cases e;cases hc)).trans e⟩)
  hb0 (fun _=>rfl)
  (fun pr Wd=>∃ xs,xs=ZaL tk [] pr/\J xs Wd/\DsQ X V V.heap.size (V.heap.size+1+1) (V.heap.size+1) l (pr.map tk) Wd)
  (fun cc pr Wd=>cc=.ret/\∃ p,p <+: ZaL tk [] L/\Jx p Wd)
  (fun pr Wd Wd' row hs hg' hr=>by
   obtain⟨xs,e1,e2,e3⟩:=hs
   exact⟨xs,e1,ZfA hJ.out (by have:=sz4.out;omega) _ _ _ _ e2 hg' hr,e3.kc2 (Zgp hg' hr) hy1X hgtX (hg'.block _ e3.s.lt (fun e=>by have:=(hr _ e.symm).1;have:=sz4.out;omega))⟩)
  (fun cc pr Wd Wd' row hs hg' hr=>⟨hs.1,hs.2.elim fun p hp=>⟨p,hp.1,ZfA hJx.out (by have:=sz4.out;omega) _ _ _ _ hp.2 hg' hr⟩⟩) ⟨[],rfl,J0,I0⟩
  (fun x a' Wd=>∃ (g5:Nat) (u6 u7 u8 u9 u10 u11 u12 u13 u14 u15 u16 u17 u18 u19 u20 u21 u22 u23 u24 u25 u26 u27 u28:Value),a'={ tmps:=#[.func (.yield l) #[] #[],.pointer (some ⟨gs,0,none⟩),.pointer (some ⟨gk,0,none⟩),.pointer (some ⟨V.heap.size,0,none⟩),.pointer (some ⟨V.heap.size+1+1,0,none⟩),(.pointer (some ⟨g5,0,none⟩)),u6,u7,u8,u9,u10,u11,u12,u13,u14,u15,u16,u17,u18,u19,u20,u21,u22,u23,u24,u25,u26,u27,u28],defers:=[] }/\Wd.heap[g5]?=some (.cells (qA x.1.op x.1.tx x.2) 30 (0,0)))
  (fun x a' _ Wd Wd' row hs hg' hr=>?ax) ?assign ?body ?done ?stop
 case ax =>
  obtain⟨g5,u6,u7,u8,u9,u10,u11,u12,u13,u14,u15,u16,u17,u18,u19,u20,u21,u22,u23,u24,u25,u26,u27,u28,e1,e2⟩:=hs
  exact⟨g5,u6,u7,u8,u9,u10,u11,u12,u13,u14,u15,u16,u17,u18,u19,u20,u21,u22,u23,u24,u25,u26,u27,u28,e1,(hg'.block g5 (Array.getElem?_eq_some_iff.1 e2).1 (fun h=>by
   obtain⟨_,o,ho,hc⟩:=hr g5 h.symm
   rw [e2] at ho
   cases ho
   cases hc)).trans e2⟩
 case assign =>
  intro l2 pr x Wd K hi hK
  simp only [encQ,List.zip_toArray,List.zip_cons_cons,List.zip_nil_left,List.zip_nil_right,List.foldl_toArray,List.foldl_cons,List.foldl_nil,List.setIfInBounds_toArray,List.set_cons_zero,List.set_cons_succ]
  replace hK:=Zaa hK
  replace hi:=Zaa hi
  gi_wp2_with (first|((with_reducible refine ZbO ?_);refine ZbP (o:=x.1.op) (t:=x.1.tx) (l:=x.2) (Zan l2) x.h (fun _=>rfl) (fun _=>rfl) ?_;intro g5 w8 hb8 B8 hg8;replace hb8:=Zaa hb8;replace B8:=Zaa B8))
  obtain⟨xs,e1,e2,e3⟩:=hi.out
  exact hK.out _ w8 (Za2 B8.out) (Zek B8.out) ⟨xs,e1,ZaW hJ.out e2 B8.out,e3.below B8.out⟩ ⟨g5,_,_,_,_,_,_,_,_,_,_,_,_,_,_,_,_,_,_,_,_,_,_,_,rfl,hb8.out⟩
 case body =>
  rintro l2 pr x a' Wd hl ⟨r,hr⟩ ⟨xs,hxs,hj,hd⟩ ⟨g5,u6,u7,u8,u9,u10,u11,u12,u13,u14,u15,u16,u17,u18,u19,u20,u21,u22,u23,u24,u25,u26,u27,u28,rfl,hg5⟩ hY hsz
  have cK:=Zal (hd.kc.2 gk _ _ _ (fun h=>hkB (nX.out _ h).1) hkV.out) 0 (v:=.func (.func 49) #[] #[]) rfl
  have hxL:x ∈ L:=hY.subset (by simp)
  have hxm:=hLx.out x hxL
  have hkey:=hkey9 (s:=tk x) (by unfold maxLen;show x.1.tell.length<=_;omega)
  have hprn:pr.length<maxLen:=by have:=hY.length_le;have:=hLn.out;simp at *;omega
  have TD:=Zaa (fun n=>callsIn_wide (n:=n).2 (ZjR x.1 _ (encP x) Wd (((hLQV.out x hxL).weaken (fun k hk=>(nX.out k hk).1)).kc hd.kc) hxm))
  have h5H:=Zaa hg5
  replace hr:=Zaa hr
  have hjH:=Zaa hj
  have hdH:=Zaa hd
  replace hxs:=Zaa hxs
  have hYp:=Zaa hY
  clear hj hd hY
  gi_wp2_with (first|((with_reducible refine Zah 49 ?_);refine Zai 49 (Zan l2) rfl (ld49 cK) ?_)|((with_reducible refine Zah 30 ?_);refine Zai 30 (Zan l2) rfl (ZaY h5H.out) ?_))
  refine⟨trivial,fun h=>(by cases h),(TD.out _).mono ?_⟩
  rintro e Wk ⟨rfl,Bk⟩
  have hjK:=Zaa (ZaW hJ.out hjH.out Bk)
  have hdK:=Zaa (hdH.out.below Bk)
  have h5K:=Zaa ((Bk.block g5 (Array.getElem?_eq_some_iff.1 h5H.out).1).trans h5H.out)
  have hdW:=Zaa hdH.out.kc
  have kBk:=Zaa (Za2 (B:=w4.heap.size) Bk)
  have cBk:=Zaa (Zek (X:=X) Bk)
  have szk:=Zaa Bk.size
  clear cK TD Bk hjH hdH h5H
  obtain⟨nn,D,hnn,hown,hhas⟩:=hdK.out.s.map
  have cT:=Zal hdK.out.t 0 (v:=.map (some (V.heap.size+1))) rfl
  replace hown:=Zaa hown
  replace hhas:=Zaa hhas
  rw [List.length_map] at hnn
  cases hin:decide (tk x ∈ pr.map tk) with
  | true =>
   have hin2:tk x ∈ pr.map tk:=of_decide_eq_true hin
   have hh:=hhas.out (tk x)
   rw [hin] at hh
   replace hin:=Zaa hin
   gi_wp2_with (first|((with_reducible refine Zah 102 ?_);refine Zai 102 (Zan l2) rfl (ZeU cT) ?_)|(gi_at_lookup;refine wpListIn_lookup_own_unit _ rfl (.tmp 16) (.tmp 17) 102 rfl 9 103 law9 Tryz.underlying102 (ZeR _) _ nn D rfl hown.out _ (txkey (tk x)) rfl hkey ?_;rw [hh])|((with_reducible refine ZaO 103 ?_);refine Zci (Zan l2) ?_;intro g7 w7 e7 h7 B7;clear h7;replace B7:=Zaa B7)|((with_reducible refine Zay 103 ?_);refine ZdI (Zan l2) rfl rfl ?_))
   refine⟨Zbv kBk.out (Za2 (B:=w4.heap.size) B7.out) (Nat.le_refl _),cBk.out.trans (Kc.below B7.out (Nat.le_refl _)),xs,?_,ZaW hJ.out hjK.out B7.out,?_⟩
   ·rw [Zfw,if_pos (.inr hin2)];exact hxs.out
   ·have d7:=hdK.out.kc2 (Kc.below B7.out (Nat.le_refl _)) hy1X hgtX (B7.out.block _ hdK.out.s.lt)
    rw [List.map_append];exact⟨d7.kc,d7.y,d7.t,d7.s.again hin2⟩
  | false =>
   have hin2:¬ tk x ∈ pr.map tk:=of_decide_eq_false hin
   have hds:xs++[x]=ZaL tk [] (pr++[x]):=by rw [Zfw,if_neg (fun h=>h.elim (fun h=>(List.not_mem_nil h)) hin2),<- hxs.out]
   have hy8:∀ (w7 w8:World),Below Wk.heap.size Wk w7->w7.grownBy w8 (some (V.heap.size+1))->YieldAt Fence.wide (n - 1 - 1 - 1) Tryz.prog l (encQ x) w8 fun e W' =>
     KeepsFrom V.heap.size w8 W'/\((e=.returned (.bool true)/\J (xs++[x]) W'/\Kc X w8 W')\/(e=.returned (.bool false)/\Jx (xs++[x]) W')):=fun w7 w8 B7 hg8=>by
    have j7:=ZaW hJ.out hjK.out B7
    obtain⟨o,ho1,ho2⟩:=hdK.out.s.obj
    have j8:J xs w8:=hJ.out _ _ _ _ j7 hg8 (fun r e=>by cases e;exact⟨by omega,o,(B7.block _ hdK.out.s.lt).trans ho1,ho2⟩)
    have hsz8:V.heap.size+2<=w8.heap.size:=by have:=hg8.size;have:=B7.size;have:=szk.out;have:=sz4.out;omega
    exact ZbW (hYY.out xs x w8 j8 (by rw [hds];exact Zeh hYp.out []) hsz8)
   replace hy8:=Zaa hy8
   replace hds:=Zaa hds
   have hh:=hhas.out (tk x)
   rw [hin] at hh
   replace hin:=Zaa hin
   replace hin2:=Zaa hin2
   have m5:Hid (g5≠V.heap.size+1):=fun e=>by
    obtain⟨o,ho1,ho2⟩:=hdK.out.s.obj
    rw [<- e,h5K.out] at ho1
    cases ho1
    cases ho2
   gi_wp2_with (first|((with_reducible refine Zah 102 ?_);refine Zai 102 (Zan l2) rfl (ZeU cT) ?_)|(gi_at_lookup;refine wpListIn_lookup_own_unit _ rfl (.tmp 16) (.tmp 17) 102 rfl 9 103 law9 Tryz.underlying102 (ZeR _) _ nn D rfl hown.out _ (txkey (tk x)) rfl hkey ?_;rw [hh])|((with_reducible refine ZaO 103 ?_);refine Zci (Zan l2) ?_;intro g7 w7 e7 h7 B7;clear h7;replace B7:=Zaa B7;(have hown7:=Zaa (Zcz hown.out (B7.out.block _ hdK.out.s.lt)));(have cT7:=Zal ((B7.out.block _ (Array.getElem?_eq_some_iff.1 hdK.out.t).1).trans hdK.out.t) 0 (v:=.map (some (V.heap.size+1))) rfl))|((with_reducible refine Zay 103 ?_);refine ZdI (Zan l2) rfl rfl ?_)|((with_reducible refine Zah 102 ?_);refine Zai 102 (Zan l2) rfl (ZeU cT7) ?_)|(gi_at_mapUpdate;refine wpListIn_mapUpdate_own _ rfl (.tmp 22) (.tmp 23) (.tmp 24) 102 rfl 9 103 law9 Tryz.underlying102 unitElem _ nn D rfl hown7.out (by omega) _ _ (txkey (tk x)) rfl rfl hkey (.agg []) [] unitElem_mk ?_;intro w8 hown8 hg8;replace hown8:=Zaa hown8;replace hg8:=Zaa hg8;(obtain⟨fn,tmps,assign,body,hy,hR⟩:=hy8.out w7 w8 B7.out hg8.out);simp only [encQ] at hy;(have g58:=(hg8.out.block g5 (by have:=B7.out.size;have:=(Array.getElem?_eq_some_iff.1 h5K.out).1;omega) (fun e=>by (have:=m5.out);(simp at e);omega)).trans ((B7.out.block _ (Array.getElem?_eq_some_iff.1 h5K.out).1).trans h5K.out));(have cy8:=Zal ((hg8.out.block _ (by have:=B7.out.size;have:=(Array.getElem?_eq_some_iff.1 hdK.out.y).1;omega) (fun e=>by simp at e)).trans ((B7.out.block _ (Array.getElem?_eq_some_iff.1 hdK.out.y).1).trans hdK.out.y)) 0 (v:=.func (.yield l) #[] #[]) rfl))|((with_reducible refine Zah 98 ?_);refine Zai 98 (Zan l2) rfl (ld98 cy8) ?_)|((with_reducible refine Zah 30 ?_);refine Zai 30 (Zan l2) rfl (ZaY g58) ?_))
   have y8:Hid (w8.heap[V.heap.size]?=some (.cells #[.func (.yield l) #[] #[]] 98 (0,0))):=(hg8.out.block _ (by have:=B7.out.size;have:=(Array.getElem?_eq_some_iff.1 hdK.out.y).1;omega) (fun e=>by simp at e)).trans ((B7.out.block _ (Array.getElem?_eq_some_iff.1 hdK.out.y).1).trans hdK.out.y)
   have t8:Hid (w8.heap[V.heap.size+1+1]?=some (.cells #[.map (some (V.heap.size+1))] 102 (0,0))):=(hg8.out.block _ (by have:=B7.out.size;have:=(Array.getElem?_eq_some_iff.1 hdK.out.t).1;omega) (fun e=>by simp at e)).trans ((B7.out.block _ (Array.getElem?_eq_some_iff.1 hdK.out.t).1).trans hdK.out.t)
   have m8:Hid (SetT w8 (V.heap.size+1) ((pr++[x]).map tk)):=⟨nn+1,_,by rw [List.length_map,List.length_append];simp;omega,hown8.out,fun s=>by
    by_cases e:s=tk x
    ·subst e
     rw [has_put_same hown7.out.isMap (show WideAt.IsKeyLit (txkey (tk x)) from trivial),decide_eq_true (by simp)]
    ·rw [has_put_other (fun h=>e (by simpa using h)),hhas.out s]
     congr 1
     rw [List.map_append,List.mem_append,List.map_cons,List.map_nil,List.mem_singleton]
     exact propext ⟨fun h=>.inl h,fun h=>h.elim id (fun h=>absurd h e)⟩⟩
   have k8:Hid (Kc X Wd w8):=cBk.out.trans <| (Kc.below B7.out (Nat.le_refl _)).trans ⟨hg8.out.size,fun k cs t fr _ h=>(hg8.out.block k (Array.getElem?_eq_some_iff.1 h).1 (fun e=>by
    cases e
    obtain⟨o,ho1,ho2⟩:=hdK.out.s.obj
    rw [(B7.out.block _ hdK.out.s.lt).trans ho1] at h
    cases h
    cases ho2)).trans h⟩
   have f8:Hid (KeepsFrom w4.heap.size Wd w8):=Zbv (B':=w4.heap.size) kBk.out (Zbv (B:=w4.heap.size) (B':=w4.heap.size) (Za2 B7.out) ⟨hg8.out.size,fun k o hk ho _=>(hg8.out.block k (Array.getElem?_eq_some_iff.1 ho).1 (fun e=>by cases e;have:=sz4.out;omega)).trans ho⟩ (Nat.le_refl _)) (Nat.le_refl _)
   have s8:=Zaa m8.out.lt
   refine⟨fun h=>(by cases h),RoundIn.mono (F:=Fence.wide.inRound l2) hR ?_⟩
   rintro e W3 ⟨k1,(⟨rfl,k2,k3⟩|⟨rfl,k2⟩)⟩
   ·have fin:KeepsFrom w4.heap.size Wd W3/\Kc X Wd W3/\∃ xs,xs=ZaL tk [] (pr++[x])/\J xs W3/\DsQ X V V.heap.size (V.heap.size+1+1) (V.heap.size+1) l ((pr++[x]).map tk) W3:=by
     obtain⟨o,ho1,ho2⟩:=m8.out.obj
     refine⟨Zbv f8.out k1 (by have:=sz4.out;omega),k8.out.trans k3,_,hds.out,k2,⟨hdW.out.trans (k8.out.trans k3),k3.2 _ _ _ _ hy1X y8.out,k3.2 _ _ _ _ hgtX t8.out,m8.out.block ?_⟩⟩
     rw [ho1]
     exact k1.same _ o (by omega) ho1 ho2
    replace fin:=Zaa fin
    clear k1 k2 k3
    gi_wp2
    exact fin.out
   ·have fin:KeepsFrom w4.heap.size Wd W3/\∃ p,p <+: ZaL tk [] L/\Jx p W3:=⟨Zbv f8.out k1 (by have:=sz4.out;omega),_,by rw [hds.out];exact Zeh hYp.out [],k2⟩
    replace fin:=Zaa fin
    clear k1 k2
    gi_wp2
    exact⟨fin.out.1,rfl,fin.out.2⟩
 case done =>
  rintro D xs Wd hD hS ⟨ys,hys,hj,hd⟩ hK
  rw [hS] at hys
  replace hys:=Zaa hys
  replace hj:=Zaa hj
  replace hd:=Zaa hd
  replace hK:=Zaa hK
  gi_wp2
  refine⟨by simp,.inl ⟨_,_,rfl,run_takeDeferred hK.out,?_⟩⟩
  refine⟨_,results_none rfl _ _ _,⟨_,rfl⟩,.inl ⟨ys,hys.out,hJ.out.putObj _ hj.out (by have:=sz4.out;omega) hK.out rfl⟩⟩
 case stop =>
  rintro D cc pr Wd hD hS ⟨rfl,p,hp1,hp⟩ hK
  replace hp:=Zaa hp
  replace hp1:=Zaa hp1
  replace hK:=Zaa hK
  gi_wp2
  refine⟨by simp,.inl ⟨_,_,rfl,run_takeDeferred hK.out,?_⟩⟩
  refine⟨_,results_none rfl _ _ _,⟨_,rfl⟩,.inr ⟨p,hp1.out,hJx.out.putObj _ hp.out (by have:=sz4.out;omega) hK.out rfl⟩⟩
end G
end Go.Proofs.YtnffbmipllhjdaaGreatDoor
