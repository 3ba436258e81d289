/- GramSound, part 2. -/
import Derived.Test.YtnffbmipllhjdaaGreatDoorXZ1
import Derived.Laws.AppendOwnNone
import Derived.Deep.AppendLies
set_option linter.all false
set_option maxHeartbeats 8000000
namespace Go.Proofs.YtnffbmipllhjdaaGreatDoor
section
open Go.RowKit
def clL (s:ByteArray):Nat->S4->Nat->Bool->Rs
 | 0,x,k,ok=>(x,k,ok)
 | n+1,x,k,ok=>if ok=true/\bt s k≠93 then clL s n (uni [x,(Zbp s k).1]) (Zbp s k).2.1 (Zbp s k).2.2 else (x,k,ok)
theorem Zdz (s:ByteArray)(n:Nat)(x:S4)(k:Nat)(ok:Bool)(h:¬ (ok=true/\bt s k≠93)):clL s n x k ok=(x,k,ok):=by
 cases n with
 | zero=>rfl
 | succ n=>unfold clL;rw [if_neg h]
def cl1 (s:ByteArray)(k:Nat):Rs:=clL s (s.size+1 - k) (Zbp s k).1 (Zbp s k).2.1 (Zbp s k).2.2
def Zki (inv:Bool)(r:Rs):Rs:=if r.2.2=true then (if inv=true then oth r.1 else r.1,r.2.1+1,true) else (noSet,r.2.1,false)
def Zeb (s:ByteArray)(k:Nat):Rs:=if bt s (k+1)=94 then Zki true (cl1 s (k+2)) else Zki false (cl1 s (k+1))
def okN:Value->Nat
 | .bool true=>1
 | _=>0
theorem Zlh (s:ByteArray):∀ (n:Nat)(x:S4)(k:Nat)(ok:Bool),OkS x->k<=s.size->s.size - k<n\/ok=false ->
  OkS (clL s n x k ok).1/\k<=(clL s n x k ok).2.1/\(clL s n x k ok).2.1<=s.size/\((clL s n x k ok).2.2=true->bt s (clL s n x k ok).2.1=93)
 | 0,x,k,ok,hx,hk,h=>by
  obtain rfl:ok=false:=by rcases h with h|h;omega;exact h
  exact⟨hx,Nat.le_refl _,hk,fun h=>by cases h⟩
 | n+1,x,k,ok,hx,hk,h=>by
  by_cases hc:ok=true/\bt s k≠93
  ·unfold clL
   rw [if_pos hc]
   obtain⟨o1,f1,f2,f3⟩:=Zc4 s k
   have hle:(Zbp s k).2.1<=s.size:=by omega
   have hn:s.size - k<n+1:=by rcases h with h|h;exact h;rw [hc.1] at h;cases h
   have:=Zlh s n (uni [x,(Zbp s k).1]) (Zbp s k).2.1 (Zbp s k).2.2 (ZgK (fun t ht=>by simp at ht;rcases ht with rfl|rfl <;> assumption)) hle (by
    cases hq:(Zbp s k).2.2 with
    | false=>exact .inr rfl
    | true=>have:=f3 hq;left;omega)
   exact⟨this.1,by omega,this.2.2.1,this.2.2.2⟩
  ·rw [Zdz s _ x k ok hc]
   exact⟨hx,Nat.le_refl _,hk,fun e=>Classical.byContradiction fun h=>hc ⟨e,h⟩⟩
theorem ZfW (s:ByteArray)(k:Nat)(hk:k<=s.size):OkS (cl1 s k).1/\k<=(cl1 s k).2.1/\(cl1 s k).2.1<=s.size/\((cl1 s k).2.2=true->bt s (cl1 s k).2.1=93):=by
 unfold cl1
 obtain⟨o1,f1,f2,f3⟩:=Zc4 s k
 have:=Zlh s (s.size+1 - k) (Zbp s k).1 (Zbp s k).2.1 (Zbp s k).2.2 o1 (by omega) (by
  cases hq:(Zbp s k).2.2 with
  | false=>exact .inr rfl
  | true=>have:=f3 hq;left;omega)
 exact⟨this.1,by omega,this.2.2⟩
theorem ZgO {s:ByteArray}{inv:Bool}{r:Rs}{k:Nat}(h:OkS r.1/\k<=r.2.1/\r.2.1<=s.size/\(r.2.2=true->bt s r.2.1=93)):OkS (Zki inv r).1/\k<=(Zki inv r).2.1/\(Zki inv r).2.1<=s.size:=by
 unfold Zki
 split
 ·rename_i e
  have:=ZbD (s:=s) (k:=r.2.1) (by have:=h.2.2.2 e;omega)
  refine⟨?_,by simp;omega,by simp;omega⟩
  simp only
  split
  ·exact ZgH h.1
  ·exact h.1
 ·exact⟨ZaX,h.2.1,h.2.2.1⟩
theorem Zli (s:ByteArray)(k:Nat)(hk:k<s.size):Far s k (Zeb s k):=by
 unfold Zeb
 split
 ·rename_i h
  have:=ZbD (s:=s) (k:=k+1) (by omega)
  obtain⟨a,b,c⟩:=ZgO (inv:=true) (ZfW s (k+2) (by omega))
  exact⟨a,by omega,.inl c,fun _=>⟨by omega,c⟩⟩
 ·obtain⟨a,b,c⟩:=ZgO (inv:=false) (ZfW s (k+1) (by omega))
  exact⟨a,by omega,.inl c,fun _=>⟨by omega,c⟩⟩
theorem Zlj (s:ByteArray)(hs:s.size<=256)(k:Nat)(hk:k<s.size)(w:World)(hT:Tab w){z:Int}(hz:z=(k:Int)):Calls Tryz.prog 173 #[.string s,.int .i64 z] w fun e w'=>e=.returned (.tuple #[Zbf (Zeb s k).1,.int .i64 ((Zeb s k).2.1:Int),.bool (Zeb s k).2.2])/\Below w.heap.size w w':=by
 subst hz
 have H:=St.start Nope w
 unfold Zeb
 generalize hc:bt s (k+1)=c
 by_cases h94:c=94
 ·subst h94
  have hk1:=ZbD (s:=s) (k:=k+1) (by omega)
  rw [if_pos rfl]
  replace hc:=Zaa hc
  have fin:=ZfW s (k+2) (by omega)
  have P:=Zaa (fun w hT z hz=>Zen s hs (k+2) (by omega) w hT (z:=z) hz)
  unfold cl1 at fin ⊢
  have f0:=Zc4 s (k+2)
  generalize hR:clL s (s.size+1 - (k+2)) (Zbp s (k+2)).1 (Zbp s (k+2)).2.1 (Zbp s (k+2)).2.2=R at fin ⊢
  replace hR:=Zaa hR
  generalize Zbp s (k+2)=r at P f0 hR
  obtain⟨x,d,ok⟩:=r
  obtain⟨ox,f1,f2,f3⟩:=f0
  simp only at P ox f1 f2 f3 hR
  have hd:d<=s.size:=by omega
  have hn:Hid (ok=true->s.size - d<s.size+1 - (k+2)):=fun h=>by have:=f3 h;omega
  replace fin:=Zaa fin
  replace ox:=Zaa ox
  replace f2:=Zaa f2
  replace f3:=Zaa f3
  go_enter Tryz.func173,Tryz.ntmps173
  go_wp2_with (with_reducible refine Zae 24 ?_;refine Zak H ?_;clear H;intro g w' H q1 q2;clear q1 q2)
  refine (Zam s (k+1) _ (by omega)).mono ?_
  rintro e w1 ⟨rfl,rfl⟩
  rw [hc.out]
  go_wp2_with fail
  refine (P.out _ (hT.st H (fun _ _ h=>h)) _ (by omega)).mono ?_
  rintro e w2 ⟨rfl,b2⟩
  replace H:=H.call b2 (Nat.le_refl _)
  go_wp2_with (first|(with_reducible refine Zae 24 ?_;refine Zak H ?_;clear H;intro g2 w' H q1 q2;clear q1 q2)|(with_reducible refine Zab 24 ?_;first|(refine Zag 0 H rfl rfl rfl ?_;clear H;intro w' H)))
  clear P f1
  go_loopw [1,9] (fun at_ ok wr=>∃ n x d o,at_=.int .i64 ((d:Nat):Int)/\ok=.bool o/\d<=s.size/\Hid (clL s n x d o=R)/\Hid (o=true->s.size - d<n)/\Hid (OkS x)/\Hid (St Nope w wr [(true,g2,24,Zce x),(true,g,24,Zce noSet)])) (fun at_ ok _=>okN ok * (s.size+2 - (intOf at_).toNat))
  case atStart=>exact⟨_,x,d,ok,rfl,rfl,hd,hR,hn,ox,H⟩
  case round =>
   clear hR hn ox H hd
   obtain⟨n,x,d,o,rfl,rfl,hd,hR,hn,ox,H2⟩:=hrel
   have H:=H2.out
   clear H2
   cases o with
   | false =>
    have e:R=(x,d,false):=by rw [<- hR.out];exact Zdz s n x d false (by simp)
    subst e
    clear hR hn
    go_wp2_with (with_reducible refine Zab 24 ?_;first|(refine Zag 1 (s':=noSet) H rfl rfl rfl ?_;clear H;intro w' H))
    refine bodyPost_ret (Zaj rfl _ _ g _ rfl (ZaB (H.get 1 rfl))) rfl ?_
    exact⟨rfl,H.below⟩
   | true =>
    generalize hb:bt s d=b
    by_cases h93:b=93
    ·subst h93
     have e:R=(x,d,true):=by rw [<- hR.out];exact Zdz s n x d true (by simp [hb])
     subst e
     clear hR hn
     replace hb:=Zaa hb
     go_wp2_with fail
     refine (Zam s d _ rfl).mono ?_
     rintro e w1 ⟨rfl,rfl⟩
     rw [hb.out]
     go_wp2_with (with_reducible refine Zac 24 ?_;first|(refine Zaq 0 H rfl rfl ?_))
     refine (Zco x _).mono ?_
     rintro e w2 ⟨rfl,b2⟩
     replace H:=H.call b2 (Nat.le_refl _)
     go_wp2_with (first|(with_reducible refine Zac 24 ?_;first|(refine Zaq 0 H rfl rfl ?_))|(with_reducible refine Zab 24 ?_;first|(refine Zag 0 H rfl rfl rfl ?_;clear H;intro w' H)|(refine Zag 1 H rfl rfl rfl ?_;clear H;intro w' H)))
     refine bodyPost_ret (Zaj rfl _ _ g _ rfl (ZaB (H.get 1 rfl))) rfl ?_
     exact⟨rfl,H.below⟩
    ·have h2:(b != 93)=true:=by simpa using h93
     obtain⟨m,hm⟩:∃ m,n=m+1:=by
      cases n with
      | zero=>have:=hn.out rfl;omega
      | succ m=>exact⟨m,rfl⟩
     subst hm
     have P:=Zaa (fun w hT z hz=>Zen s hs d (by omega) w hT (z:=z) hz)
     have f0:=Zc4 s d
     have e:clL s m (uni [x,(Zbp s d).1]) (Zbp s d).2.1 (Zbp s d).2.2=R:=by
      rw [<- hR.out]
      show _=clL s (m+1) x d true
      rw [clL,if_pos ⟨rfl,by rw [hb];exact h93⟩]
     replace e:=Zaa e
     have hn2:=hn.out rfl
     generalize Zbp s d=r at P f0 e
     obtain⟨y,d2,ok2⟩:=r
     obtain⟨oy,f1,f2,f3⟩:=f0
     simp only at P oy f1 f2 f3 e
     have hd2:d2<=s.size:=by omega
     have hm:okN (.bool ok2) * (s.size+2 - d2)<s.size+2 - d:=by
      cases ok2 with
      | false=>simp [okN];omega
      | true=>have:=f3 rfl;simp [okN];omega
     have hnew:Hid (ok2=true->s.size - d2<m):=fun h=>by have:=f3 h;omega
     have oxy:Hid (OkS (uni [x,y])):=ZgK (fun t ht=>by simp at ht;rcases ht with rfl|rfl;exact ox.out;exact oy)
     replace hm:=Zaa hm
     replace oy:=Zaa oy
     replace f2:=Zaa f2
     replace f3:=Zaa f3
     replace hb:=Zaa hb
     replace h93:=Zaa h93
     clear hR hn hn2
     go_wp2_with fail
     refine (Zam s d _ rfl).mono ?_
     rintro e' w1 ⟨rfl,rfl⟩
     rw [hb.out]
     go_wp2_with (with_reducible refine Zae 24 ?_;refine Zak H ?_;clear H;intro g3 w' H q1 q2;clear q1 q2)
     refine (P.out _ (hT.st H (fun _ _ h=>h)) _ rfl).mono ?_
     rintro e' w2 ⟨rfl,b2⟩
     replace H:=H.call b2 (Nat.le_refl _)
     clear P
     go_wp2_with (first|(with_reducible refine Zac 24 ?_;first|(refine Zaq 0 H rfl rfl ?_)|(refine Zaq 1 H rfl rfl ?_))|(with_reducible refine Zab 24 ?_;first|(refine Zag 0 H rfl rfl rfl ?_;clear H;intro w' H))|(with_reducible refine Zkh 2 ?_;refine wl_bs2 H rfl rfl ?_;clear H;intro b' w' H HU))
     refine (Zcp _ _ _ _ HU).mono ?_
     rintro e' w4 ⟨rfl,b4⟩
     replace H:=H.call b4 (Nat.le_refl _)
     clear HU
     go_wp2_with (with_reducible refine Zab 24 ?_;first|(refine Zag 1 H rfl rfl rfl ?_;clear H;intro w' H))
     go_roundw
     case rel=>exact⟨m,_,d2,ok2,rfl,rfl,hd2,e,hnew,oxy,H.tail⟩
     case measure=>have:=hm.out;simpa [okN,intOf] using this
 ·rw [if_neg h94]
  have h2:(c == 94)=false:=beq_eq_false_iff_ne.2 h94
  replace h94:=Zaa h94
  replace hc:=Zaa hc
  have fin:=ZfW s (k+1) (by omega)
  have P:=Zaa (fun w hT z hz=>Zen s hs (k+1) (by omega) w hT (z:=z) hz)
  unfold cl1 at fin ⊢
  have f0:=Zc4 s (k+1)
  generalize hR:clL s (s.size+1 - (k+1)) (Zbp s (k+1)).1 (Zbp s (k+1)).2.1 (Zbp s (k+1)).2.2=R at fin ⊢
  replace hR:=Zaa hR
  generalize Zbp s (k+1)=r at P f0 hR
  obtain⟨x,d,ok⟩:=r
  obtain⟨ox,f1,f2,f3⟩:=f0
  simp only at P ox f1 f2 f3 hR
  have hd:d<=s.size:=by omega
  have hn:Hid (ok=true->s.size - d<s.size+1 - (k+1)):=fun h=>by have:=f3 h;omega
  replace fin:=Zaa fin
  replace ox:=Zaa ox
  replace f2:=Zaa f2
  replace f3:=Zaa f3
  go_enter Tryz.func173,Tryz.ntmps173
  go_wp2_with (with_reducible refine Zae 24 ?_;refine Zak H ?_;clear H;intro g w' H q1 q2;clear q1 q2)
  refine (Zam s (k+1) _ (by omega)).mono ?_
  rintro e w1 ⟨rfl,rfl⟩
  rw [hc.out]
  go_wp2_with fail
  refine (P.out _ (hT.st H (fun _ _ h=>h)) _ (by omega)).mono ?_
  rintro e w2 ⟨rfl,b2⟩
  replace H:=H.call b2 (Nat.le_refl _)
  go_wp2_with (first|(with_reducible refine Zae 24 ?_;refine Zak H ?_;clear H;intro g2 w' H q1 q2;clear q1 q2)|(with_reducible refine Zab 24 ?_;first|(refine Zag 0 H rfl rfl rfl ?_;clear H;intro w' H)))
  clear P f1
  go_loopw [1,9] (fun at_ ok wr=>∃ n x d o,at_=.int .i64 ((d:Nat):Int)/\ok=.bool o/\d<=s.size/\Hid (clL s n x d o=R)/\Hid (o=true->s.size - d<n)/\Hid (OkS x)/\Hid (St Nope w wr [(true,g2,24,Zce x),(true,g,24,Zce noSet)])) (fun at_ ok _=>okN ok * (s.size+2 - (intOf at_).toNat))
  case atStart=>exact⟨_,x,d,ok,rfl,rfl,hd,hR,hn,ox,H⟩
  case round =>
   clear hR hn ox H hd
   obtain⟨n,x,d,o,rfl,rfl,hd,hR,hn,ox,H2⟩:=hrel
   have H:=H2.out
   clear H2
   cases o with
   | false =>
    have e:R=(x,d,false):=by rw [<- hR.out];exact Zdz s n x d false (by simp)
    subst e
    clear hR hn
    go_wp2_with (with_reducible refine Zab 24 ?_;first|(refine Zag 1 (s':=noSet) H rfl rfl rfl ?_;clear H;intro w' H))
    refine bodyPost_ret (Zaj rfl _ _ g _ rfl (ZaB (H.get 1 rfl))) rfl ?_
    exact⟨rfl,H.below⟩
   | true =>
    generalize hb:bt s d=b
    by_cases h93:b=93
    ·subst h93
     have e:R=(x,d,true):=by rw [<- hR.out];exact Zdz s n x d true (by simp [hb])
     subst e
     clear hR hn
     replace hb:=Zaa hb
     go_wp2_with fail
     refine (Zam s d _ rfl).mono ?_
     rintro e w1 ⟨rfl,rfl⟩
     rw [hb.out]
     go_wp2_with (first|(with_reducible refine Zac 24 ?_;first|(refine Zaq 0 H rfl rfl ?_))|(with_reducible refine Zab 24 ?_;first|(refine Zag 1 H rfl rfl rfl ?_;clear H;intro w' H)))
     refine bodyPost_ret (Zaj rfl _ _ g _ rfl (ZaB (H.get 1 rfl))) rfl ?_
     exact⟨rfl,H.below⟩
    ·have h2:(b != 93)=true:=by simpa using h93
     obtain⟨m,hm⟩:∃ m,n=m+1:=by
      cases n with
      | zero=>have:=hn.out rfl;omega
      | succ m=>exact⟨m,rfl⟩
     subst hm
     have P:=Zaa (fun w hT z hz=>Zen s hs d (by omega) w hT (z:=z) hz)
     have f0:=Zc4 s d
     have e:clL s m (uni [x,(Zbp s d).1]) (Zbp s d).2.1 (Zbp s d).2.2=R:=by
      rw [<- hR.out]
      show _=clL s (m+1) x d true
      rw [clL,if_pos ⟨rfl,by rw [hb];exact h93⟩]
     replace e:=Zaa e
     have hn2:=hn.out rfl
     generalize Zbp s d=r at P f0 e
     obtain⟨y,d2,ok2⟩:=r
     obtain⟨oy,f1,f2,f3⟩:=f0
     simp only at P oy f1 f2 f3 e
     have hd2:d2<=s.size:=by omega
     have hm:okN (.bool ok2) * (s.size+2 - d2)<s.size+2 - d:=by
      cases ok2 with
      | false=>simp [okN];omega
      | true=>have:=f3 rfl;simp [okN];omega
     have hnew:Hid (ok2=true->s.size - d2<m):=fun h=>by have:=f3 h;omega
     have oxy:Hid (OkS (uni [x,y])):=ZgK (fun t ht=>by simp at ht;rcases ht with rfl|rfl;exact ox.out;exact oy)
     replace hm:=Zaa hm
     replace oy:=Zaa oy
     replace f2:=Zaa f2
     replace f3:=Zaa f3
     replace hb:=Zaa hb
     replace h93:=Zaa h93
     clear hR hn hn2
     go_wp2_with fail
     refine (Zam s d _ rfl).mono ?_
     rintro e' w1 ⟨rfl,rfl⟩
     rw [hb.out]
     go_wp2_with (with_reducible refine Zae 24 ?_;refine Zak H ?_;clear H;intro g3 w' H q1 q2;clear q1 q2)
     refine (P.out _ (hT.st H (fun _ _ h=>h)) _ rfl).mono ?_
     rintro e' w2 ⟨rfl,b2⟩
     replace H:=H.call b2 (Nat.le_refl _)
     clear P
     go_wp2_with (first|(with_reducible refine Zac 24 ?_;first|(refine Zaq 0 H rfl rfl ?_)|(refine Zaq 1 H rfl rfl ?_))|(with_reducible refine Zab 24 ?_;first|(refine Zag 0 H rfl rfl rfl ?_;clear H;intro w' H))|(with_reducible refine Zkh 2 ?_;refine wl_bs2 H rfl rfl ?_;clear H;intro b' w' H HU))
     refine (Zcp _ _ _ _ HU).mono ?_
     rintro e' w4 ⟨rfl,b4⟩
     replace H:=H.call b4 (Nat.le_refl _)
     clear HU
     go_wp2_with (with_reducible refine Zab 24 ?_;first|(refine Zag 1 H rfl rfl rfl ?_;clear H;intro w' H))
     go_roundw
     case rel=>exact⟨m,_,d2,ok2,rfl,rfl,hd2,e,hnew,oxy,H.tail⟩
     case measure=>have:=hm.out;simpa [okN,intOf] using this
def bads:List Int:=[40,41,42,43,63,123,125,94,36,124]
def Zlk (s:ByteArray)(k:Nat):Rs :=
 if bt s k=46 then (oth (Zcn 10 10),k+1,true)
 else if bt s k=91 then Zeb s k
 else if bt s k=92 then escR s k
 else if bt s k ∈ bads then (noSet,k,false)
 else plR s k
theorem set_far (s:ByteArray)(k:Nat):Far s k (Zlk s k):=by
 unfold Zlk
 split
 ·rename_i h
  have:=ZbD (s:=s) (k:=k) (by omega)
  exact⟨ZgH (Zb7 _ _ (by omega) (by omega)),by simp,.inl (by simp;omega),fun _=>by simp;omega⟩
 ·split
  ·exact Zli s k (ZbD (by omega))
  ·split
   ·exact Zlg s k (ZbD (by omega))
   ·split
    ·exact⟨ZaX,Nat.le_refl _,.inr rfl,fun h=>by cases h⟩
    ·exact pl_far s k
theorem set_any (s:ByteArray)(hs:s.size<=256)(k:Nat)(hk:k<=s.size)(w:World)(hT:Tab w){z:Int}(hz:z=(k:Int)):Calls Tryz.prog 119 #[.string s,.int .i64 z] w fun e w'=>e=.returned (.tuple #[Zbf (Zlk s k).1,.int .i64 ((Zlk s k).2.1:Int),.bool (Zlk s k).2.2])/\Below w.heap.size w w':=by
 subst hz
 have H:=St.start Nope w
 unfold Zlk
 generalize hc:bt s k=c
 by_cases h46:c=46
 ·subst h46
  rw [if_pos rfl]
  replace hc:=Zaa hc
  go_enter Tryz.func119,Tryz.ntmps119
  go_wp2_with (with_reducible refine Zae 24 ?_;refine Zak H ?_;clear H;intro g w' H q1 q2;clear q1 q2)
  refine (Zam s k _ rfl).mono ?_
  rintro e w1 ⟨rfl,rfl⟩
  rw [hc.out]
  go_wp2_with fail
  refine (ZaD 10 10 (by omega) (by omega) _ (by rfl) (by rfl)).mono ?_
  rintro e w2 ⟨rfl,b2⟩
  replace H:=H.call b2 (Nat.le_refl _)
  go_wp2_with fail
  refine (Zco _ _).mono ?_
  rintro e w2 ⟨rfl,b2⟩
  replace H:=H.call b2 (Nat.le_refl _)
  go_wp2_with (with_reducible refine Zab 24 ?_;refine Zag 0 H rfl rfl rfl ?_;clear H;intro w' H)
  refine bodyPost_ret (Zaj rfl _ _ g _ rfl (ZaB (H.get 0 rfl))) rfl ?_
  exact⟨rfl,H.below⟩
 ·rw [if_neg h46]
  have n46:(c == 46)=false:=beq_eq_false_iff_ne.2 h46
  replace h46:=Zaa h46
  by_cases h91:c=91
  ·subst h91
   rw [if_pos rfl]
   have P:=Zaa (fun w hT z hz=>Zlj s hs k (ZbD (by omega)) w hT (z:=z) hz)
   generalize Zeb s k=r at P ⊢
   obtain⟨x,d,ok⟩:=r
   simp only at P ⊢
   replace hc:=Zaa hc
   go_enter Tryz.func119,Tryz.ntmps119
   go_wp2_with (with_reducible refine Zae 24 ?_;refine Zak H ?_;clear H;intro g w' H q1 q2;clear q1 q2)
   refine (Zam s k _ rfl).mono ?_
   rintro e w1 ⟨rfl,rfl⟩
   rw [hc.out]
   go_wp2_with fail
   refine (P.out _ (hT.st H (fun _ _ h=>h)) _ rfl).mono ?_
   rintro e w2 ⟨rfl,b2⟩
   replace H:=H.call b2 (Nat.le_refl _)
   go_wp2_with (with_reducible refine Zab 24 ?_;refine Zag 0 H rfl rfl rfl ?_;clear H;intro w' H)
   refine bodyPost_ret (Zaj rfl _ _ g _ rfl (ZaB (H.get 0 rfl))) rfl ?_
   exact⟨rfl,H.below⟩
  ·rw [if_neg h91]
   have n91:(c == 91)=false:=beq_eq_false_iff_ne.2 h91
   replace h91:=Zaa h91
   by_cases h92:c=92
   ·subst h92
    rw [if_pos rfl]
    have P:=Zaa (fun w z hz=>Zfo s k (by omega) w (z:=z) hz)
    generalize escR s k=r at P ⊢
    obtain⟨x,d,ok⟩:=r
    simp only at P ⊢
    replace hc:=Zaa hc
    go_enter Tryz.func119,Tryz.ntmps119
    go_wp2_with (with_reducible refine Zae 24 ?_;refine Zak H ?_;clear H;intro g w' H q1 q2;clear q1 q2)
    refine (Zam s k _ rfl).mono ?_
    rintro e w1 ⟨rfl,rfl⟩
    rw [hc.out]
    go_wp2_with fail
    refine (P.out _ _ rfl).mono ?_
    rintro e w2 ⟨rfl,b2⟩
    replace H:=H.call b2 (Nat.le_refl _)
    go_wp2_with (with_reducible refine Zab 24 ?_;refine Zag 0 H rfl rfl rfl ?_;clear H;intro w' H)
    refine bodyPost_ret (Zaj rfl _ _ g _ rfl (ZaB (H.get 0 rfl))) rfl ?_
    exact⟨rfl,H.below⟩
   ·rw [if_neg h92]
    have n92:(c == 92)=false:=beq_eq_false_iff_ne.2 h92
    replace h92:=Zaa h92
    by_cases hb:c ∈ bads
    ·rw [if_pos hb]
     replace hc:=Zaa hc
     simp only [bads,List.mem_cons,List.not_mem_nil,or_false] at hb
     rcases hb with rfl|rfl|rfl|rfl|rfl|rfl|rfl|rfl|rfl|rfl
     ·clear n46 n91 n92
      go_enter Tryz.func119,Tryz.ntmps119
      go_wp2_with (with_reducible refine Zae 24 ?_;refine Zak H ?_;clear H;intro g w' H q1 q2;clear q1 q2)
      refine (Zam s k _ rfl).mono ?_
      rintro e w1 ⟨rfl,rfl⟩
      rw [hc.out]
      go_wp2_with (with_reducible refine Zab 24 ?_;refine Zag 0 (s':=noSet) H rfl rfl rfl ?_;clear H;intro w' H)
      refine bodyPost_ret (Zaj rfl _ _ g _ rfl (ZaB (H.get 0 rfl))) rfl ?_
      exact⟨rfl,H.below⟩
     ·clear n46 n91 n92
      go_enter Tryz.func119,Tryz.ntmps119
      go_wp2_with (with_reducible refine Zae 24 ?_;refine Zak H ?_;clear H;intro g w' H q1 q2;clear q1 q2)
      refine (Zam s k _ rfl).mono ?_
      rintro e w1 ⟨rfl,rfl⟩
      rw [hc.out]
      go_wp2_with (with_reducible refine Zab 24 ?_;refine Zag 0 (s':=noSet) H rfl rfl rfl ?_;clear H;intro w' H)
      refine bodyPost_ret (Zaj rfl _ _ g _ rfl (ZaB (H.get 0 rfl))) rfl ?_
      exact⟨rfl,H.below⟩
     ·clear n46 n91 n92
      go_enter Tryz.func119,Tryz.ntmps119
      go_wp2_with (with_reducible refine Zae 24 ?_;refine Zak H ?_;clear H;intro g w' H q1 q2;clear q1 q2)
      refine (Zam s k _ rfl).mono ?_
      rintro e w1 ⟨rfl,rfl⟩
      rw [hc.out]
      go_wp2_with (with_reducible refine Zab 24 ?_;refine Zag 0 (s':=noSet) H rfl rfl rfl ?_;clear H;intro w' H)
      refine bodyPost_ret (Zaj rfl _ _ g _ rfl (ZaB (H.get 0 rfl))) rfl ?_
      exact⟨rfl,H.below⟩
     ·clear n46 n91 n92
      go_enter Tryz.func119,Tryz.ntmps119
      go_wp2_with (with_reducible refine Zae 24 ?_;refine Zak H ?_;clear H;intro g w' H q1 q2;clear q1 q2)
      refine (Zam s k _ rfl).mono ?_
      rintro e w1 ⟨rfl,rfl⟩
      rw [hc.out]
      go_wp2_with (with_reducible refine Zab 24 ?_;refine Zag 0 (s':=noSet) H rfl rfl rfl ?_;clear H;intro w' H)
      refine bodyPost_ret (Zaj rfl _ _ g _ rfl (ZaB (H.get 0 rfl))) rfl ?_
      exact⟨rfl,H.below⟩
     ·clear n46 n91 n92
      go_enter Tryz.func119,Tryz.ntmps119
      go_wp2_with (with_reducible refine Zae 24 ?_;refine Zak H ?_;clear H;intro g w' H q1 q2;clear q1 q2)
      refine (Zam s k _ rfl).mono ?_
      rintro e w1 ⟨rfl,rfl⟩
      rw [hc.out]
      go_wp2_with (with_reducible refine Zab 24 ?_;refine Zag 0 (s':=noSet) H rfl rfl rfl ?_;clear H;intro w' H)
      refine bodyPost_ret (Zaj rfl _ _ g _ rfl (ZaB (H.get 0 rfl))) rfl ?_
      exact⟨rfl,H.below⟩
     ·clear n46 n91 n92
      go_enter Tryz.func119,Tryz.ntmps119
      go_wp2_with (with_reducible refine Zae 24 ?_;refine Zak H ?_;clear H;intro g w' H q1 q2;clear q1 q2)
      refine (Zam s k _ rfl).mono ?_
      rintro e w1 ⟨rfl,rfl⟩
      rw [hc.out]
      go_wp2_with (with_reducible refine Zab 24 ?_;refine Zag 0 (s':=noSet) H rfl rfl rfl ?_;clear H;intro w' H)
      refine bodyPost_ret (Zaj rfl _ _ g _ rfl (ZaB (H.get 0 rfl))) rfl ?_
      exact⟨rfl,H.below⟩
     ·clear n46 n91 n92
      go_enter Tryz.func119,Tryz.ntmps119
      go_wp2_with (with_reducible refine Zae 24 ?_;refine Zak H ?_;clear H;intro g w' H q1 q2;clear q1 q2)
      refine (Zam s k _ rfl).mono ?_
      rintro e w1 ⟨rfl,rfl⟩
      rw [hc.out]
      go_wp2_with (with_reducible refine Zab 24 ?_;refine Zag 0 (s':=noSet) H rfl rfl rfl ?_;clear H;intro w' H)
      refine bodyPost_ret (Zaj rfl _ _ g _ rfl (ZaB (H.get 0 rfl))) rfl ?_
      exact⟨rfl,H.below⟩
     ·clear n46 n91 n92
      go_enter Tryz.func119,Tryz.ntmps119
      go_wp2_with (with_reducible refine Zae 24 ?_;refine Zak H ?_;clear H;intro g w' H q1 q2;clear q1 q2)
      refine (Zam s k _ rfl).mono ?_
      rintro e w1 ⟨rfl,rfl⟩
      rw [hc.out]
      go_wp2_with (with_reducible refine Zab 24 ?_;refine Zag 0 (s':=noSet) H rfl rfl rfl ?_;clear H;intro w' H)
      refine bodyPost_ret (Zaj rfl _ _ g _ rfl (ZaB (H.get 0 rfl))) rfl ?_
      exact⟨rfl,H.below⟩
     ·clear n46 n91 n92
      go_enter Tryz.func119,Tryz.ntmps119
      go_wp2_with (with_reducible refine Zae 24 ?_;refine Zak H ?_;clear H;intro g w' H q1 q2;clear q1 q2)
      refine (Zam s k _ rfl).mono ?_
      rintro e w1 ⟨rfl,rfl⟩
      rw [hc.out]
      go_wp2_with (with_reducible refine Zab 24 ?_;refine Zag 0 (s':=noSet) H rfl rfl rfl ?_;clear H;intro w' H)
      refine bodyPost_ret (Zaj rfl _ _ g _ rfl (ZaB (H.get 0 rfl))) rfl ?_
      exact⟨rfl,H.below⟩
     ·clear n46 n91 n92
      go_enter Tryz.func119,Tryz.ntmps119
      go_wp2_with (with_reducible refine Zae 24 ?_;refine Zak H ?_;clear H;intro g w' H q1 q2;clear q1 q2)
      refine (Zam s k _ rfl).mono ?_
      rintro e w1 ⟨rfl,rfl⟩
      rw [hc.out]
      go_wp2_with (with_reducible refine Zab 24 ?_;refine Zag 0 (s':=noSet) H rfl rfl rfl ?_;clear H;intro w' H)
      refine bodyPost_ret (Zaj rfl _ _ g _ rfl (ZaB (H.get 0 rfl))) rfl ?_
      exact⟨rfl,H.below⟩
    ·rw [if_neg hb]
     replace hc:=Zaa hc
     simp only [bads,List.mem_cons,List.not_mem_nil,or_false,not_or] at hb
     obtain⟨m40,m41,m42,m43,m63,m123,m125,m94,m36,m124⟩:=hb
     have n40:(c == 40)=false:=beq_eq_false_iff_ne.2 m40
     have n41:(c == 41)=false:=beq_eq_false_iff_ne.2 m41
     have n42:(c == 42)=false:=beq_eq_false_iff_ne.2 m42
     have n43:(c == 43)=false:=beq_eq_false_iff_ne.2 m43
     have n63:(c == 63)=false:=beq_eq_false_iff_ne.2 m63
     have n123:(c == 123)=false:=beq_eq_false_iff_ne.2 m123
     have n125:(c == 125)=false:=beq_eq_false_iff_ne.2 m125
     have n94:(c == 94)=false:=beq_eq_false_iff_ne.2 m94
     have n36:(c == 36)=false:=beq_eq_false_iff_ne.2 m36
     have n124:(c == 124)=false:=beq_eq_false_iff_ne.2 m124
     clear m40 m41 m42 m43 m63 m123 m125 m94 m36 m124
     have P:=Zaa (fun w z hz=>ZgL s k (by omega) w (z:=z) hz)
     generalize plR s k=r at P ⊢
     obtain⟨x,d,ok⟩:=r
     simp only at P ⊢
     go_enter Tryz.func119,Tryz.ntmps119
     go_wp2_with (with_reducible refine Zae 24 ?_;refine Zak H ?_;clear H;intro g w' H q1 q2;clear q1 q2)
     refine (Zam s k _ rfl).mono ?_
     rintro e w1 ⟨rfl,rfl⟩
     rw [hc.out]
     go_wp2_with fail
     refine (P.out _ _ rfl).mono ?_
     rintro e w2 ⟨rfl,b2⟩
     replace H:=H.call b2 (Nat.le_refl _)
     go_wp2_with (with_reducible refine Zab 24 ?_;refine Zag 0 H rfl rfl rfl ?_;clear H;intro w' H)
     refine bodyPost_ret (Zaj rfl _ _ g _ rfl (ZaB (H.get 0 rfl))) rfl ?_
     exact⟨rfl,H.below⟩
open Go.RowKit
section
variable {S:Nat->Prop}{w0 w:World}{L:List Ent}{ops:Array Oper}{rest:List Oper}{a:Act}{Q:Exit->Act->World->Prop}{dst:Option Nat}{x y:Operand}{ty:TypeId}{pos:String}{after:Array Edge}
theorem one3:∀ w,(sizeOf 3).run Tryz.prog w=.ok 1 w:=fun w=>by kernel_rfl
theorem one4:∀ w,(sizeOf 4).run Tryz.prog w=.ok 1 w:=fun w=>by kernel_rfl
theorem one26:∀ w,(sizeOf 25).run Tryz.prog w=.ok 1 w:=fun w=>by kernel_rfl
theorem one59:∀ w,(sizeOf 183).run Tryz.prog w=.ok 1 w:=fun w=>by kernel_rfl
theorem ZeB (i:Nat)(H:St S w0 w L){g:Nat}{n:Int}{s:S4}{l:Value}{mn mx v:Int}(h:L[i]?=some (true,g,27,reA n s l mn mx))(hx:a.eval x=.pointer (some ⟨g,7,none⟩))(hy:a.eval y=.int .i64 v)
  (k:∀ w',St S w0 w' (L.set i (true,g,27,reA n s l mn v))->wpList Tryz.prog ops Q rest a w'):wpList Tryz.prog ops Q (⟨none,.store 3 x y,ty,pos,after,none⟩::rest) a w :=
 Zbt i 7 3 H h hx hy (by simp [reA]) one3 rfl k
theorem ZeC (i:Nat)(H:St S w0 w L){g:Nat}{n:Int}{s:S4}{l:Value}{mn mx v:Int}(h:L[i]?=some (true,g,27,reA n s l mn mx))(hx:a.eval x=.pointer (some ⟨g,6,none⟩))(hy:a.eval y=.int .i64 v)
  (k:∀ w',St S w0 w' (L.set i (true,g,27,reA n s l v mx))->wpList Tryz.prog ops Q rest a w'):wpList Tryz.prog ops Q (⟨none,.store 3 x y,ty,pos,after,none⟩::rest) a w :=
 Zbt i 6 3 H h hx hy (by simp [reA]) one3 rfl k
theorem ZdS (i:Nat)(H:St S w0 w L){g:Nat}{n:Int}{s:S4}{l:Value}{mn mx v:Int}(h:L[i]?=some (true,g,27,reA n s l mn mx))(hx:a.eval x=.pointer (some ⟨g,0,none⟩))(hy:a.eval y=.int .i64 v)
  (k:∀ w',St S w0 w' (L.set i (true,g,27,reA v s l mn mx))->wpList Tryz.prog ops Q rest a w'):wpList Tryz.prog ops Q (⟨none,.store 3 x y,ty,pos,after,none⟩::rest) a w :=
 Zbt i 0 3 H h hx hy (by simp [reA]) one3 rfl k
theorem Zll (i:Nat)(H:St S w0 w L){g:Nat}{n:Int}{s:S4}{l:Value}{mn mx:Int}{ad:Option Addr}{len cap:Nat}(h:L[i]?=some (true,g,27,reA n s l mn mx))(hx:a.eval x=.pointer (some ⟨g,5,none⟩))(hy:a.eval y=.slice ad len cap)
  (k:∀ w',St S w0 w' (L.set i (true,g,27,reA n s (.slice ad len cap) mn mx))->wpList Tryz.prog ops Q rest a w'):wpList Tryz.prog ops Q (⟨none,.store 25 x y,ty,pos,after,none⟩::rest) a w :=
 Zbt i 5 25 H h hx hy (by simp [reA]) one26 rfl k
theorem ZeD (i:Nat)(H:St S w0 w L){g:Nat}{n:Int}{s s':S4}{l:Value}{mn mx:Int}(h:L[i]?=some (true,g,27,reA n s l mn mx))(hx:a.eval x=.pointer (some ⟨g,1,none⟩))(hy:a.eval y=Zbf s')
  (k:∀ w',St S w0 w' (L.set i (true,g,27,reA n s' l mn mx))->wpList Tryz.prog ops Q rest a w'):wpList Tryz.prog ops Q (⟨none,.store 24 x y,ty,pos,after,none⟩::rest) a w:=by
 refine wpList_plain rfl fun K hK=>?_
 have h1:=H.setCell i h 1 (.int .u64 s'.a)
 have e1:(L.set i (true,g,27,(reA n s l mn mx).setIfInBounds 1 (.int .u64 s'.a)))[i]?=some (true,g,27,reA n ⟨s'.a,s.b,s.c,s.d⟩ l mn mx):=by rw [List.getElem?_set_self (List.getElem?_eq_some_iff.1 h).1];rfl
 have h2:=h1.setCell i e1 2 (.int .u64 s'.b)
 rw [List.set_set] at h2
 have e2:(L.set i (true,g,27,(reA n ⟨s'.a,s.b,s.c,s.d⟩ l mn mx).setIfInBounds 2 (.int .u64 s'.b)))[i]?=some (true,g,27,reA n ⟨s'.a,s'.b,s.c,s.d⟩ l mn mx):=by rw [List.getElem?_set_self (List.getElem?_eq_some_iff.1 h).1];rfl
 have h3:=h2.setCell i e2 3 (.int .u64 s'.c)
 rw [List.set_set] at h3
 have e3:(L.set i (true,g,27,(reA n ⟨s'.a,s'.b,s.c,s.d⟩ l mn mx).setIfInBounds 3 (.int .u64 s'.c)))[i]?=some (true,g,27,reA n ⟨s'.a,s'.b,s'.c,s.d⟩ l mn mx):=by rw [List.getElem?_set_self (List.getElem?_eq_some_iff.1 h).1];rfl
 have h4:=h3.setCell i e3 4 (.int .u64 s'.d)
 rw [List.set_set] at h4
 have c1:=H.cell i 1 h (v:=.int .u64 s.a) rfl
 have c2:=h1.cell i 2 e1 (v:=.int .u64 s.b) rfl
 have c3:=h2.cell i 3 e2 (v:=.int .u64 s.c) rfl
 have c4:=h3.cell i 4 e3 (v:=.int .u64 s.d) rfl
 have f1:=H.fz i 1 h
 have f2:=h1.fz i 2 e1
 have f3:=h2.fz i 3 e2
 have f4:=h3.fz i 4 e3
 have hz:∀ w,(sizeOf 24).run Tryz.prog w=.ok 4 w:=fun w=>by kernel_rfl
 have hst:(storeVar 24 ⟨g,1,none⟩ (Zbf s')).run Tryz.prog w=.ok () ((((w.setCell ⟨g,1,none⟩ (.int .u64 s'.a)).setCell ⟨g,2,none⟩ (.int .u64 s'.b)).setCell ⟨g,3,none⟩ (.int .u64 s'.c)).setCell ⟨g,4,none⟩ (.int .u64 s'.d)):=by
  have e:(storeCells ⟨g,1,none⟩ [.int .u64 s'.a,.int .u64 s'.b,.int .u64 s'.c,.int .u64 s'.d]).run Tryz.prog w=.ok () ((((w.setCell ⟨g,1,none⟩ (.int .u64 s'.a)).setCell ⟨g,2,none⟩ (.int .u64 s'.b)).setCell ⟨g,3,none⟩ (.int .u64 s'.c)).setCell ⟨g,4,none⟩ (.int .u64 s'.d)):=by
   simp [storeCells,go_sem,stored,c1,c2,c3,c4,f1,f2,f3,f4,Zav]
  unfold storeVar
  simp only [Sem.run_bind,hz,Result.andThen_ok]
  have e4:(Zbf s').cells=#[.int .u64 s'.a,.int .u64 s'.b,.int .u64 s'.c,.int .u64 s'.d]:=rfl
  rw [e4]
  simpa using e
 unfold Oper.wp execOp
 simp only [hx,hy,Instr.storeAt,Instr.sureAddr,Sem.run_bind,Sem.run_pure,Result.andThen_ok,hst]
 exact hK _ _ (k _ h4)
end
def c2R (s:ByteArray)(k:Nat):Int × Int × Nat × Bool :=
 if (Zdx s (k+1)).2.2=true/\bt s (Zdx s (k+1)).2.1=44 then
  (
   if bt s ((Zdx s (k+1)).2.1+1)=125 then ((Zdx s (k+1)).1,-1,(Zdx s (k+1)).2.1+1,true)
   else ((Zdx s (k+1)).1,Zdx s ((Zdx s (k+1)).2.1+1)))
 else ((Zdx s (k+1)).1,(Zdx s (k+1)).1,(Zdx s (k+1)).2.1,(Zdx s (k+1)).2.2)
abbrev Tm:=(Int × Int × Int) × Nat × Bool
def Zde (s:ByteArray)(k:Nat)(r:Int × Int × Nat × Bool):Tm :=
 if r.2.2.2=false\/bt s r.2.2.1≠125 then ((0,0,0),r.2.2.1,false)
 else if arT r.1 r.2.1=true then ((4,r.1,r.2.1),r.2.2.1+1,true) else ((0,0,0),k,false)
def ZbC (s:ByteArray)(k:Nat):Tm:=Zde s k (c2R s k)
theorem ZfX (s:ByteArray)(k:Nat):k<=(Zdx s k).2.1/\(Zdx s k).2.1<=k+2/\((Zdx s k).2.1<=s.size\/(Zdx s k).2.1=k)/\((Zdx s k).2.2=true->(Zdx s k).2.1<=s.size)/\0<=(Zdx s k).1/\(Zdx s k).1<=99:=by
 unfold Zdx
 split
 ·rename_i h1
  have r1:=Zdy h1
  have b1:=ZbD (s:=s) (k:=k) (by omega)
  split
  ·rename_i h2
   have r2:=Zdy h2.2
   have b2:=ZbD (s:=s) (k:=k+1) (by omega)
   simp;omega
  ·simp;omega
 ·simp
theorem c2_far (s:ByteArray)(k:Nat)(hk:k<s.size):k<=(c2R s k).2.2.1/\(c2R s k).2.2.1<=s.size:=by
 obtain⟨a1,a2,a3,a4,a5,a6⟩:=ZfX s (k+1)
 obtain⟨b1,b2,b3,b4,b5,b6⟩:=ZfX s ((Zdx s (k+1)).2.1+1)
 unfold c2R
 split
 ·rename_i h
  have:=ZbD (s:=s) (k:=(Zdx s (k+1)).2.1) (by omega)
  split
  ·simp;omega
  ·simp;omega
 ·simp;omega
theorem Zkj (s:ByteArray)(k:Nat)(hk:k<s.size):k<=(ZbC s k).2.1/\(ZbC s k).2.1<=s.size/\((ZbC s k).2.2=true->(ZbC s k).1.1=4/\k<(ZbC s k).2.1/\arT (ZbC s k).1.2.1 (ZbC s k).1.2.2=true):=by
 obtain⟨h1,h2⟩:=c2_far s k hk
 unfold ZbC Zde
 split
 ·exact⟨h1,h2,fun h=>by cases h⟩
 ·rename_i h
  have:=ZbD (s:=s) (k:=(c2R s k).2.2.1) (by
   intro e;exact h (.inr (by omega)))
  split
  ·rename_i h3
   exact⟨by simp;omega,by simp;omega,fun _=>⟨rfl,by simp;omega,h3⟩⟩
  ·exact⟨Nat.le_refl _,by simp;omega,fun h=>by cases h⟩
theorem Zkk (s:ByteArray)(hs:s.size<=256)(k:Nat)(hk:k<s.size)(w:World){z:Int}(hz:z=(k:Int)):Calls Tryz.prog 176 #[.string s,.int .i64 z] w fun e w'=>e=.returned (.tuple #[reV (ZbC s k).1.1 noSet (.slice none 0 0) (ZbC s k).1.2.1 (ZbC s k).1.2.2,.int .i64 ((ZbC s k).2.1:Int),.bool (ZbC s k).2.2])/\Below w.heap.size w w':=by
 subst hz
 have H:=St.start Nope w
 unfold ZbC c2R
 obtain⟨a1,a2,a3,a4,a5,a6⟩:=ZfX s (k+1)
 generalize hN:Zdx s (k+1)=r at a1 a2 a3 a4 a5 a6 ⊢
 obtain⟨fr,d,ok⟩:=r
 simp only at a1 a2 a3 a4 a5 a6 ⊢
 replace a3:=Zaa a3
 replace a4:=Zaa a4
 cases ok with
 | false =>
  rw [if_neg (by simp),show Zde s k (fr,fr,d,false)=((0,0,0),d,false) by unfold Zde;rw [if_pos (.inl rfl)]]
  go_enter Tryz.func176,Tryz.ntmps176
  go_wp2_with (with_reducible refine Zae 27 ?_;refine Zap H ?_;clear H;intro g w' H q1 q2;clear q1 q2)
  refine (ZaZ s (k+1) (by omega) _ (by omega)).mono ?_
  rintro e w1 ⟨rfl,rfl⟩
  rw [hN]
  go_wp2_with (with_reducible refine Zab 27 ?_;refine Zao 0 (n':=0) (s':=noSet) (l':=.slice none 0 0) (mn':=0) (mx':=0) H rfl rfl rfl rfl ?_;clear H;intro w' H)
  refine bodyPost_ret (Zaj rfl _ _ g _ rfl (ZaG (H.get 0 rfl))) rfl ?_
  exact⟨rfl,H.below⟩
 | true =>
  by_cases h44:bt s d=44
  ·rw [if_pos ⟨rfl,h44⟩]
   have hd:=ZbD (s:=s) (k:=d) (by omega)
   by_cases h3:bt s (d+1)=125
   ·rw [if_pos h3]
    rw [show Zde s k (fr,-1,d+1,true)=(if arT fr (-1)=true then ((4,fr,-1),d+1+1,true) else ((0,0,0),k,false)) by unfold Zde;rw [if_neg (by simp [h3])]]
    cases hA:arT fr (-1) with
    | true =>
     rw [if_pos rfl]
     go_enter Tryz.func176,Tryz.ntmps176
     go_wp2_with (with_reducible refine Zae 27 ?_;refine Zap H ?_;clear H;intro g w' H q1 q2;clear q1 q2)
     refine (ZaZ s (k+1) (by omega) _ (by omega)).mono ?_
     rintro e w1 ⟨rfl,rfl⟩
     rw [hN]
     go_wp2_with fail
     refine (Zam s (d) _ (rfl)).mono ?_
     rintro e w1 ⟨rfl,rfl⟩
     rw [h44]
     go_wp2_with fail
     refine (Zam s (d+1) _ (by omega)).mono ?_
     rintro e w1 ⟨rfl,rfl⟩
     rw [h3]
     go_wp2_with fail
     refine (Zam s (d+1) _ (by omega)).mono ?_
     rintro e w1 ⟨rfl,rfl⟩
     rw [h3]
     go_wp2_with fail
     refine (Zbm _ _ _).mono ?_
     rintro e w1 ⟨rfl,rfl⟩
     rw [hA]
     go_wp2_with (with_reducible refine Zab 27 ?_;refine Zao 0 (n':=4) (s':=noSet) (l':=.slice none 0 0) (mn':=fr) (mx':=-1) H rfl rfl rfl rfl ?_;clear H;intro w' H)
     refine bodyPost_ret (Zaj rfl _ _ g _ rfl (ZaG (H.get 0 rfl))) rfl ?_
     exact⟨rfl,H.below⟩
    | false =>
     rw [if_neg (by simp)]
     go_enter Tryz.func176,Tryz.ntmps176
     go_wp2_with (with_reducible refine Zae 27 ?_;refine Zap H ?_;clear H;intro g w' H q1 q2;clear q1 q2)
     refine (ZaZ s (k+1) (by omega) _ (by omega)).mono ?_
     rintro e w1 ⟨rfl,rfl⟩
     rw [hN]
     go_wp2_with fail
     refine (Zam s (d) _ (rfl)).mono ?_
     rintro e w1 ⟨rfl,rfl⟩
     rw [h44]
     go_wp2_with fail
     refine (Zam s (d+1) _ (by omega)).mono ?_
     rintro e w1 ⟨rfl,rfl⟩
     rw [h3]
     go_wp2_with fail
     refine (Zam s (d+1) _ (by omega)).mono ?_
     rintro e w1 ⟨rfl,rfl⟩
     rw [h3]
     go_wp2_with fail
     refine (Zbm _ _ _).mono ?_
     rintro e w1 ⟨rfl,rfl⟩
     rw [hA]
     go_wp2_with (with_reducible refine Zab 27 ?_;refine Zao 0 (n':=0) (s':=noSet) (l':=.slice none 0 0) (mn':=0) (mx':=0) H rfl rfl rfl rfl ?_;clear H;intro w' H)
     refine bodyPost_ret (Zaj rfl _ _ g _ rfl (ZaG (H.get 0 rfl))) rfl ?_
     exact⟨rfl,H.below⟩
   ·rw [if_neg h3]
    generalize h3q:bt s (d+1)=q3 at h3
    have h3n:(q3 != 125)=true:=by simpa using h3
    replace h3:=Zaa h3
    obtain⟨b1,b2,b3,b4,b5,b6⟩:=ZfX s (d+1)
    generalize hN2:Zdx s (d+1)=r2 at b1 b2 b3 b4 b5 b6 ⊢
    obtain⟨to,d2,ok2⟩:=r2
    simp only at b1 b2 b3 b4 b5 b6 ⊢
    replace b3:=Zaa b3
    replace b4:=Zaa b4
    cases ok2 with
    | false =>
     rw [show Zde s k (fr,to,d2,false)=((0,0,0),d2,false) by unfold Zde;rw [if_pos (.inl rfl)]]
     go_enter Tryz.func176,Tryz.ntmps176
     go_wp2_with (with_reducible refine Zae 27 ?_;refine Zap H ?_;clear H;intro g w' H q1 q2;clear q1 q2)
     refine (ZaZ s (k+1) (by omega) _ (by omega)).mono ?_
     rintro e w1 ⟨rfl,rfl⟩
     rw [hN]
     go_wp2_with fail
     refine (Zam s (d) _ (rfl)).mono ?_
     rintro e w1 ⟨rfl,rfl⟩
     rw [h44]
     go_wp2_with fail
     refine (Zam s (d+1) _ (by omega)).mono ?_
     rintro e w1 ⟨rfl,rfl⟩
     rw [h3q]
     go_wp2_with fail
     refine (ZaZ s (d+1) (by omega) _ (by omega)).mono ?_
     rintro e w1 ⟨rfl,rfl⟩
     rw [hN2]
     go_wp2_with (with_reducible refine Zab 27 ?_;refine Zao 0 (n':=0) (s':=noSet) (l':=.slice none 0 0) (mn':=0) (mx':=0) H rfl rfl rfl rfl ?_;clear H;intro w' H)
     refine bodyPost_ret (Zaj rfl _ _ g _ rfl (ZaG (H.get 0 rfl))) rfl ?_
     exact⟨rfl,H.below⟩
    | true =>
     by_cases h125:bt s (d2)=125
     ·rw [show Zde s k (fr,to,d2,true)=(if arT (fr) (to)=true then ((4,fr,to),d2+1,true) else ((0,0,0),k,false)) by unfold Zde;rw [if_neg (by simp [h125])]]
      cases hA:arT (fr) (to) with
      | true =>
       rw [if_pos rfl]
       replace h125:=Zaa h125
       replace hA:=hA
       go_enter Tryz.func176,Tryz.ntmps176
       go_wp2_with (with_reducible refine Zae 27 ?_;refine Zap H ?_;clear H;intro g w' H q1 q2;clear q1 q2)
       refine (ZaZ s (k+1) (by omega) _ (by omega)).mono ?_
       rintro e w1 ⟨rfl,rfl⟩
       rw [hN]
       go_wp2_with fail
       refine (Zam s (d) _ (rfl)).mono ?_
       rintro e w1 ⟨rfl,rfl⟩
       rw [h44]
       go_wp2_with fail
       refine (Zam s (d+1) _ (by omega)).mono ?_
       rintro e w1 ⟨rfl,rfl⟩
       rw [h3q]
       go_wp2_with fail
       refine (ZaZ s (d+1) (by omega) _ (by omega)).mono ?_
       rintro e w1 ⟨rfl,rfl⟩
       rw [hN2]
       go_wp2_with fail
       refine (Zam s (d2) _ (by omega)).mono ?_
       rintro e w1 ⟨rfl,rfl⟩
       rw [h125.out]
       go_wp2_with fail
       refine (Zbm _ _ _).mono ?_
       rintro e w1 ⟨rfl,rfl⟩
       rw [hA]
       go_wp2_with (with_reducible refine Zab 27 ?_;refine Zao 0 (n':=4) (s':=noSet) (l':=.slice none 0 0) (mn':=fr) (mx':=to) H rfl rfl rfl rfl ?_;clear H;intro w' H)
       refine bodyPost_ret (Zaj rfl _ _ g _ rfl (ZaG (H.get 0 rfl))) rfl ?_
       exact⟨rfl,H.below⟩
      | false =>
       rw [if_neg (by simp)]
       replace h125:=Zaa h125
       go_enter Tryz.func176,Tryz.ntmps176
       go_wp2_with (with_reducible refine Zae 27 ?_;refine Zap H ?_;clear H;intro g w' H q1 q2;clear q1 q2)
       refine (ZaZ s (k+1) (by omega) _ (by omega)).mono ?_
       rintro e w1 ⟨rfl,rfl⟩
       rw [hN]
       go_wp2_with fail
       refine (Zam s (d) _ (rfl)).mono ?_
       rintro e w1 ⟨rfl,rfl⟩
       rw [h44]
       go_wp2_with fail
       refine (Zam s (d+1) _ (by omega)).mono ?_
       rintro e w1 ⟨rfl,rfl⟩
       rw [h3q]
       go_wp2_with fail
       refine (ZaZ s (d+1) (by omega) _ (by omega)).mono ?_
       rintro e w1 ⟨rfl,rfl⟩
       rw [hN2]
       go_wp2_with fail
       refine (Zam s (d2) _ (by omega)).mono ?_
       rintro e w1 ⟨rfl,rfl⟩
       rw [h125.out]
       go_wp2_with fail
       refine (Zbm _ _ _).mono ?_
       rintro e w1 ⟨rfl,rfl⟩
       rw [hA]
       go_wp2_with (with_reducible refine Zab 27 ?_;refine Zao 0 (n':=0) (s':=noSet) (l':=.slice none 0 0) (mn':=0) (mx':=0) H rfl rfl rfl rfl ?_;clear H;intro w' H)
       refine bodyPost_ret (Zaj rfl _ _ g _ rfl (ZaG (H.get 0 rfl))) rfl ?_
       exact⟨rfl,H.below⟩
     ·rw [show Zde s k (fr,to,d2,true)=((0,0,0),d2,false) by unfold Zde;rw [if_pos (.inr h125)]]
      generalize hq:bt s (d2)=q at h125
      have h1:(q != 125)=true:=by simpa using h125
      replace h125:=Zaa h125
      replace hq:=Zaa hq
      go_enter Tryz.func176,Tryz.ntmps176
      go_wp2_with (with_reducible refine Zae 27 ?_;refine Zap H ?_;clear H;intro g w' H q1 q2;clear q1 q2)
      refine (ZaZ s (k+1) (by omega) _ (by omega)).mono ?_
      rintro e w1 ⟨rfl,rfl⟩
      rw [hN]
      go_wp2_with fail
      refine (Zam s (d) _ (rfl)).mono ?_
      rintro e w1 ⟨rfl,rfl⟩
      rw [h44]
      go_wp2_with fail
      refine (Zam s (d+1) _ (by omega)).mono ?_
      rintro e w1 ⟨rfl,rfl⟩
      rw [h3q]
      go_wp2_with fail
      refine (ZaZ s (d+1) (by omega) _ (by omega)).mono ?_
      rintro e w1 ⟨rfl,rfl⟩
      rw [hN2]
      go_wp2_with fail
      refine (Zam s (d2) _ (by omega)).mono ?_
      rintro e w1 ⟨rfl,rfl⟩
      rw [hq.out]
      go_wp2_with (with_reducible refine Zab 27 ?_;refine Zao 0 (n':=0) (s':=noSet) (l':=.slice none 0 0) (mn':=0) (mx':=0) H rfl rfl rfl rfl ?_;clear H;intro w' H)
      refine bodyPost_ret (Zaj rfl _ _ g _ rfl (ZaG (H.get 0 rfl))) rfl ?_
      exact⟨rfl,H.below⟩
  ·rw [if_neg (fun h=>h44 h.2)]
   generalize h4q:bt s d=q4 at h44
   have h4n:(q4 == 44)=false:=beq_eq_false_iff_ne.2 h44
   replace h44:=Zaa h44
   by_cases h125:q4=125
   ·subst h125
    rw [show Zde s k (fr,fr,d,true)=(if arT fr fr=true then ((4,fr,fr),d+1,true) else ((0,0,0),k,false)) by unfold Zde;rw [if_neg (by simp [h4q])]]
    cases hA:arT fr fr with
    | true =>
     rw [if_pos rfl]
     clear h4n
     go_enter Tryz.func176,Tryz.ntmps176
     go_wp2_with (with_reducible refine Zae 27 ?_;refine Zap H ?_;clear H;intro g w' H q1 q2;clear q1 q2)
     refine (ZaZ s (k+1) (by omega) _ (by omega)).mono ?_
     rintro e w1 ⟨rfl,rfl⟩
     rw [hN]
     go_wp2_with fail
     refine (Zam s (d) _ (rfl)).mono ?_
     rintro e w1 ⟨rfl,rfl⟩
     rw [h4q]
     go_wp2_with fail
     refine (Zam s (d) _ (rfl)).mono ?_
     rintro e w1 ⟨rfl,rfl⟩
     rw [h4q]
     go_wp2_with fail
     refine (Zbm _ _ _).mono ?_
     rintro e w1 ⟨rfl,rfl⟩
     rw [hA]
     go_wp2_with (with_reducible refine Zab 27 ?_;refine Zao 0 (n':=4) (s':=noSet) (l':=.slice none 0 0) (mn':=fr) (mx':=fr) H rfl rfl rfl rfl ?_;clear H;intro w' H)
     refine bodyPost_ret (Zaj rfl _ _ g _ rfl (ZaG (H.get 0 rfl))) rfl ?_
     exact⟨rfl,H.below⟩
    | false =>
     rw [if_neg (by simp)]
     clear h4n
     go_enter Tryz.func176,Tryz.ntmps176
     go_wp2_with (with_reducible refine Zae 27 ?_;refine Zap H ?_;clear H;intro g w' H q1 q2;clear q1 q2)
     refine (ZaZ s (k+1) (by omega) _ (by omega)).mono ?_
     rintro e w1 ⟨rfl,rfl⟩
     rw [hN]
     go_wp2_with fail
     refine (Zam s (d) _ (rfl)).mono ?_
     rintro e w1 ⟨rfl,rfl⟩
     rw [h4q]
     go_wp2_with fail
     refine (Zam s (d) _ (rfl)).mono ?_
     rintro e w1 ⟨rfl,rfl⟩
     rw [h4q]
     go_wp2_with fail
     refine (Zbm _ _ _).mono ?_
     rintro e w1 ⟨rfl,rfl⟩
     rw [hA]
     go_wp2_with (with_reducible refine Zab 27 ?_;refine Zao 0 (n':=0) (s':=noSet) (l':=.slice none 0 0) (mn':=0) (mx':=0) H rfl rfl rfl rfl ?_;clear H;intro w' H)
     refine bodyPost_ret (Zaj rfl _ _ g _ rfl (ZaG (H.get 0 rfl))) rfl ?_
     exact⟨rfl,H.below⟩
   ·rw [show Zde s k (fr,fr,d,true)=((0,0,0),d,false) by unfold Zde;rw [if_pos (.inr (by rw [h4q];exact h125))]]
    have h1:(q4 != 125)=true:=by simpa using h125
    replace h125:=Zaa h125
    go_enter Tryz.func176,Tryz.ntmps176
    go_wp2_with (with_reducible refine Zae 27 ?_;refine Zap H ?_;clear H;intro g w' H q1 q2;clear q1 q2)
    refine (ZaZ s (k+1) (by omega) _ (by omega)).mono ?_
    rintro e w1 ⟨rfl,rfl⟩
    rw [hN]
    go_wp2_with fail
    refine (Zam s (d) _ (rfl)).mono ?_
    rintro e w1 ⟨rfl,rfl⟩
    rw [h4q]
    go_wp2_with fail
    refine (Zam s (d) _ (rfl)).mono ?_
    rintro e w1 ⟨rfl,rfl⟩
    rw [h4q]
    go_wp2_with (with_reducible refine Zab 27 ?_;refine Zao 0 (n':=0) (s':=noSet) (l':=.slice none 0 0) (mn':=0) (mx':=0) H rfl rfl rfl rfl ?_;clear H;intro w' H)
    refine bodyPost_ret (Zaj rfl _ _ g _ rfl (ZaG (H.get 0 rfl))) rfl ?_
    exact⟨rfl,H.below⟩
def Za6 (s:ByteArray)(k:Nat):Tm :=
 if bt s k=123 then ZbC s k
 else if bt s k=63 then ((4,0,1),k+1,true)
 else if bt s k=43 then ((4,1,-1),k+1,true)
 else if bt s k=42 then ((4,0,-1),k+1,true)
 else ((0,0,0),k,true)
theorem Zlm (s:ByteArray)(k:Nat)(hk:k<=s.size):k<=(Za6 s k).2.1/\(Za6 s k).2.1<=s.size/\((Za6 s k).2.2=true->(Za6 s k).1=(0,0,0)/\(Za6 s k).2.1=k\/(Za6 s k).1.1=4/\k<(Za6 s k).2.1/\arT (Za6 s k).1.2.1 (Za6 s k).1.2.2=true):=by
 unfold Za6
 split
 ·obtain⟨a,b,c⟩:=Zkj s k (ZbD (by omega))
  exact⟨a,b,fun h=>.inr (c h)⟩
 ·split
  ·have:=ZbD (s:=s) (k:=k) (by omega)
   exact⟨by simp,by simp;omega,fun _=>.inr ⟨rfl,by simp,rfl⟩⟩
  ·split
   ·have:=ZbD (s:=s) (k:=k) (by omega)
    exact⟨by simp,by simp;omega,fun _=>.inr ⟨rfl,by simp,rfl⟩⟩
   ·split
    ·have:=ZbD (s:=s) (k:=k) (by omega)
     exact⟨by simp,by simp;omega,fun _=>.inr ⟨rfl,by simp,rfl⟩⟩
    ·exact⟨Nat.le_refl _,hk,fun _=>.inl ⟨rfl,rfl⟩⟩
theorem Zln (s:ByteArray)(hs:s.size<=256)(k:Nat)(hk:k<=s.size)(w:World){z:Int}(hz:z=(k:Int)):Calls Tryz.prog 121 #[.string s,.int .i64 z] w fun e w'=>e=.returned (.tuple #[reV (Za6 s k).1.1 noSet (.slice none 0 0) (Za6 s k).1.2.1 (Za6 s k).1.2.2,.int .i64 ((Za6 s k).2.1:Int),.bool (Za6 s k).2.2])/\Below w.heap.size w w':=by
 subst hz
 have H:=St.start Nope w
 unfold Za6
 generalize hc:bt s k=c
 by_cases h123:c=123
 ·subst h123
  rw [if_pos rfl]
  have P:=Zaa (fun w z hz=>Zkk s hs k (ZbD (by omega)) w (z:=z) hz)
  generalize ZbC s k=r at P ⊢
  obtain⟨⟨a0,a1,a2⟩,d,ok⟩:=r
  simp only at P ⊢
  replace hc:=Zaa hc
  go_enter Tryz.func121,Tryz.ntmps121
  go_wp2_with (first|(with_reducible refine Zae 27 ?_;refine Zap H ?_;clear H;intro g w' H q1 q2;clear q1 q2)|(with_reducible refine Zab 27 ?_;refine Zao 0 (n':=4) (s':=noSet) (l':=.slice none 0 0) (mn':=0) (mx':=0) H rfl rfl rfl rfl ?_;clear H;intro w' H))
  refine (Zam s k _ rfl).mono ?_
  rintro e w1 ⟨rfl,rfl⟩
  rw [hc.out]
  go_wp2_with fail
  refine (P.out _ _ rfl).mono ?_
  rintro e w2 ⟨rfl,b2⟩
  replace H:=H.call b2 (Nat.le_refl _)
  go_wp2_with (with_reducible refine Zab 27 ?_;refine Zao 1 H rfl rfl rfl rfl ?_;clear H;intro w' H)
  refine bodyPost_ret (Zaj rfl _ _ _ _ rfl (ZaG (H.get 1 rfl))) rfl ?_
  exact⟨rfl,H.below⟩
 ·rw [if_neg h123]
  have n123:(c == 123)=false:=beq_eq_false_iff_ne.2 h123
  replace h123:=Zaa h123
  replace hc:=Zaa hc
  by_cases h63:c=63
  ·subst h63
   rw [if_pos rfl]
   clear n123
   go_enter Tryz.func121,Tryz.ntmps121
   go_wp2_with (first|(with_reducible refine Zae 27 ?_;refine Zap H ?_;clear H;intro g w' H q1 q2;clear q1 q2)|(with_reducible refine Zab 27 ?_;refine Zao 0 (n':=4) (s':=noSet) (l':=.slice none 0 0) (mn':=0) (mx':=0) H rfl rfl rfl rfl ?_;clear H;intro w' H))
   refine (Zam s k _ rfl).mono ?_
   rintro e w1 ⟨rfl,rfl⟩
   rw [hc.out]
   go_wp2_with (first|(with_reducible refine Zab 3 ?_;first|(refine ZeB 0 H rfl rfl rfl ?_;clear H;intro w' H)|(refine ZeC 0 H rfl rfl rfl ?_;clear H;intro w' H))|(with_reducible refine Zac 27 ?_;refine Zas 0 H rfl rfl ?_)|(with_reducible refine Zab 27 ?_;refine Zao 1 H rfl rfl rfl rfl ?_;clear H;intro w' H))
   refine bodyPost_ret (Zaj rfl _ _ _ _ rfl (ZaG (H.get 1 rfl))) rfl ?_
   exact⟨rfl,H.below⟩
  ·rw [if_neg h63]
   have n63:(c == 63)=false:=beq_eq_false_iff_ne.2 h63
   replace h63:=Zaa h63
   by_cases h43:c=43
   ·subst h43
    rw [if_pos rfl]
    clear n123 n63
    go_enter Tryz.func121,Tryz.ntmps121
    go_wp2_with (first|(with_reducible refine Zae 27 ?_;refine Zap H ?_;clear H;intro g w' H q1 q2;clear q1 q2)|(with_reducible refine Zab 27 ?_;refine Zao 0 (n':=4) (s':=noSet) (l':=.slice none 0 0) (mn':=0) (mx':=0) H rfl rfl rfl rfl ?_;clear H;intro w' H))
    refine (Zam s k _ rfl).mono ?_
    rintro e w1 ⟨rfl,rfl⟩
    rw [hc.out]
    go_wp2_with (first|(with_reducible refine Zab 3 ?_;first|(refine ZeB 0 H rfl rfl rfl ?_;clear H;intro w' H)|(refine ZeC 0 H rfl rfl rfl ?_;clear H;intro w' H))|(with_reducible refine Zac 27 ?_;refine Zas 0 H rfl rfl ?_)|(with_reducible refine Zab 27 ?_;refine Zao 1 H rfl rfl rfl rfl ?_;clear H;intro w' H))
    refine bodyPost_ret (Zaj rfl _ _ _ _ rfl (ZaG (H.get 1 rfl))) rfl ?_
    exact⟨rfl,H.below⟩
   ·rw [if_neg h43]
    have n43:(c == 43)=false:=beq_eq_false_iff_ne.2 h43
    replace h43:=Zaa h43
    by_cases h42:c=42
    ·subst h42
     rw [if_pos rfl]
     clear n123 n63 n43
     go_enter Tryz.func121,Tryz.ntmps121
     go_wp2_with (first|(with_reducible refine Zae 27 ?_;refine Zap H ?_;clear H;intro g w' H q1 q2;clear q1 q2)|(with_reducible refine Zab 27 ?_;refine Zao 0 (n':=4) (s':=noSet) (l':=.slice none 0 0) (mn':=0) (mx':=0) H rfl rfl rfl rfl ?_;clear H;intro w' H))
     refine (Zam s k _ rfl).mono ?_
     rintro e w1 ⟨rfl,rfl⟩
     rw [hc.out]
     go_wp2_with (first|(with_reducible refine Zab 3 ?_;first|(refine ZeB 0 H rfl rfl rfl ?_;clear H;intro w' H)|(refine ZeC 0 H rfl rfl rfl ?_;clear H;intro w' H))|(with_reducible refine Zac 27 ?_;refine Zas 0 H rfl rfl ?_)|(with_reducible refine Zab 27 ?_;refine Zao 1 H rfl rfl rfl rfl ?_;clear H;intro w' H))
     refine bodyPost_ret (Zaj rfl _ _ _ _ rfl (ZaG (H.get 1 rfl))) rfl ?_
     exact⟨rfl,H.below⟩
    ·rw [if_neg h42]
     have n42:(c == 42)=false:=beq_eq_false_iff_ne.2 h42
     replace h42:=Zaa h42
     go_enter Tryz.func121,Tryz.ntmps121
     go_wp2_with (first|(with_reducible refine Zae 27 ?_;refine Zap H ?_;clear H;intro g w' H q1 q2;clear q1 q2)|(with_reducible refine Zab 27 ?_;refine Zao 0 (n':=4) (s':=noSet) (l':=.slice none 0 0) (mn':=0) (mx':=0) H rfl rfl rfl rfl ?_;clear H;intro w' H))
     refine (Zam s k _ rfl).mono ?_
     rintro e w1 ⟨rfl,rfl⟩
     rw [hc.out]
     go_wp2_with (with_reducible refine Zab 27 ?_;refine Zao 1 (n':=0) (s':=noSet) (l':=.slice none 0 0) (mn':=0) (mx':=0) H rfl rfl rfl rfl ?_;clear H;intro w' H)
     refine bodyPost_ret (Zaj rfl _ _ _ _ rfl (ZaG (H.get 1 rfl))) rfl ?_
     exact⟨rfl,H.below⟩
end
section
open Go.RowKit
structure Nd where
 k:Int
 s:S4
 mn:Int
 mx:Int
inductive Fo where
 | nil:Fo
 | cons:Nd->Fo->Fo->Fo
abbrev Tr:=Nd × Fo
def Fo.len:Fo->Nat
 | .nil=>0
 | .cons _ _ r=>r.len+1
def Fo.snoc:Fo->Tr->Fo
 | .nil,t=>.cons t.1 t.2 .nil
 | .cons n k r,t=>.cons n k (r.snoc t)
theorem Fo.len_snoc (f:Fo)(t:Tr):(f.snoc t).len=f.len+1:=by
 induction f with
 | nil=>rfl
 | cons n k r _ ih=>simp [Fo.snoc,Fo.len,ih]
abbrev Out:=Except Nat (Tr × Nat)
def leaf (x:S4):Tr:=(⟨1,x,0,0⟩,.nil)
def rep (t:Tr)(mn mx:Int):Tr:=(⟨4,noSet,mn,mx⟩,.cons t.1 t.2 .nil)
def tog (k:Int):Fo->Tr
 | .cons n kids .nil=>(n,kids)
 | f=>(⟨k,noSet,0,0⟩,f)
def Zh7 (br:Nat->Out)(s:ByteArray)(a:Nat):Out :=
 if bt s a=40 then br a else if (Zlk s a).2.2=true then .ok (leaf (Zlk s a).1,(Zlk s a).2.1) else .error (Zlk s a).2.1
def Zfq (br:Nat->Out)(s:ByteArray)(a:Nat):Out:=match Zh7 br s a with
 | .error p=>.error p
 | .ok (t,d)=>if (Za6 s d).2.2=true then (if (Za6 s d).1.1=4 then .ok (rep t (Za6 s d).1.2.1 (Za6 s d).1.2.2,(Za6 s d).2.1) else .ok (t,(Za6 s d).2.1)) else .error (Za6 s d).2.1
def Zlo (br:Nat->Out)(s:ByteArray):Nat->Fo->Nat->Except Nat (Fo × Nat)
 | 0,f,a=>.ok (f,a)
 | n+1,f,a=>if a<s.size/\bt s a≠124/\bt s a≠41 then (match Zfq br s a with
   | .error p=>.error p
   | .ok (t,d)=>Zlo br s n (f.snoc t) d) else .ok (f,a)
def Zlp (br:Nat->Out)(s:ByteArray)(a:Nat):Out:=match Zlo br s (s.size+1 - a) .nil a with
 | .error p=>.error p
 | .ok (f,d)=>.ok (tog 2 f,d)
def altL (br:Nat->Out)(s:ByteArray):Nat->Fo->Nat->Except Nat (Fo × Nat)
 | 0,f,a=>.ok (f,a)
 | n+1,f,a=>if bt s a=124 then (match Zlp br s (a+1) with
   | .error p=>.error p
   | .ok (t,d)=>altL br s n (f.snoc t) d) else .ok (f,a)
def Zk7 (br:Nat->Out)(s:ByteArray)(a:Nat):Out:=match Zlp br s a with
 | .error p=>.error p
 | .ok (t,d)=>match altL br s (s.size+1 - d) (Fo.nil.snoc t) d with
  | .error p=>.error p
  | .ok (f,d2)=>.ok (tog 3 f,d2)
def brM (s:ByteArray):Nat->Nat->Out
 | 0,a=>.error a
 | m+1,a=>if (opR s a).2=true then (match Zk7 (brM s m) s (opR s a).1 with
   | .error p=>.error p
   | .ok (t,d)=>if bt s d=41 then .ok (t,d+1) else .error d) else .error (opR s a).1
def Zdh (s:ByteArray):Except Nat Tr:=match Zk7 (brM s 32) s 0 with
 | .error p=>.error p
 | .ok (t,d)=>if d=s.size then .ok t else .error d
def Kd (w:World)(P:Nat->Prop):Fo->List Value->Prop
 | .nil,xs=>xs=[]
 | .cons n kids rest,xs=>∃ v ys zs,xs=(reA n.k n.s v n.mn n.mx).toList++ys/\w.ownsRow 0 27 8 v kids.len zs/\(∀ b,v.ownBlock=some b->P b)/\Kd w P kids zs/\Kd w P rest ys
def TrV (w:World)(P:Nat->Prop)(x:Value)(t:Tr):Prop :=
 ∃ v zs,x=reV t.1.k t.1.s v t.1.mn t.1.mx/\w.ownsRow 0 27 8 v t.2.len zs/\(∀ b,v.ownBlock=some b->P b)/\Kd w P t.2 zs
theorem Zbg {w w':World}{base n:Nat}{v:Value}{xs:List Value}(h:w.ownsRow base 27 8 v n xs)(hb:∀ k,v.ownBlock=some k->w'.heap[k]?=w.heap[k]?):w'.ownsRow base 27 8 v n xs:=by
 refine⟨h.1,?_⟩
 rcases h.2 with h1|⟨g,cap,cur,rfl,h2,h3,h4⟩
 ·exact .inl h1
 ·exact .inr ⟨g,cap,cur,rfl,h2,(hb g rfl).trans h3,h4⟩
theorem ZbR {w:World}{base base' n:Nat}{v:Value}{xs:List Value}(h:w.ownsRow base 27 8 v n xs)(hb:base'<=base):w.ownsRow base' 27 8 v n xs:=by
 refine⟨h.1,?_⟩
 rcases h.2 with h1|⟨g,cap,cur,rfl,h2,h3⟩
 ·exact .inl h1
 ·exact .inr ⟨g,cap,cur,rfl,by omega,h3⟩
theorem Za9 {w:World}{base n:Nat}{v:Value}{xs:List Value}(h:w.ownsRow base 27 8 v n xs){k:Nat}(hk:v.ownBlock=some k):base<=k/\k<w.heap.size:=by
 rcases h.2 with⟨rfl,_⟩|⟨g,cap,cur,rfl,h2,h3,_⟩
 ·cases hk
 ·cases hk;exact⟨h2,(Array.getElem?_eq_some_iff.1 h3).1⟩
theorem ZaR {w:World}{base n:Nat}{v:Value}{xs:List Value}(h:w.ownsRow base 27 8 v n xs):∃ a cap,v=.slice a n cap/\n<=cap/\cap<=maxLen:=by
 rcases h.2 with⟨rfl,rfl⟩|⟨g,cap,cur,rfl,h2,h3,h4,h5,_⟩
 ·exact⟨none,0,rfl,Nat.le_refl _,Nat.zero_le _⟩
 ·exact⟨some ⟨g,0,none⟩,cap,rfl,h4,h5⟩
theorem Kd.kept {w w':World}{P:Nat->Prop}(hb:∀ b,P b->b<w.heap.size->w'.heap[b]?=w.heap[b]?):∀ {f:Fo}{xs:List Value},Kd w P f xs->Kd w' P f xs
 | .nil,_,h=>h
 | .cons n kids rest,xs,⟨v,ys,zs,e,o,p,k1,k2⟩=>⟨v,ys,zs,e,Zbg o (fun k hk=>hb k (p k hk) (Za9 o hk).2),p,Kd.kept hb k1,Kd.kept hb k2⟩
theorem Kd.mono {w:World}{P P':Nat->Prop}(hp:∀ b,b<w.heap.size->P b->P' b):∀ {f:Fo}{xs:List Value},Kd w P f xs->Kd w P' f xs
 | .nil,_,h=>h
 | .cons n kids rest,xs,⟨v,ys,zs,e,o,p,k1,k2⟩=>⟨v,ys,zs,e,o,fun b hb=>hp b (Za9 o hb).2 (p b hb),Kd.mono hp k1,Kd.mono hp k2⟩
theorem Kd.snoc {w:World}{P:Nat->Prop}{t:Tr}{v:Value}{zs:List Value}(ho:w.ownsRow 0 27 8 v t.2.len zs)(hp:∀ b,v.ownBlock=some b->P b)(hk:Kd w P t.2 zs):∀ {f:Fo}{xs:List Value},Kd w P f xs->Kd w P (f.snoc t) (xs++(reA t.1.k t.1.s v t.1.mn t.1.mx).toList)
 | .nil,xs,h=>by cases h;exact⟨v,[],zs,by simp,ho,hp,hk,rfl⟩
 | .cons n kids rest,xs,⟨u,ys,us,e,o,p,k1,k2⟩=>⟨u,ys++(reA t.1.k t.1.s v t.1.mn t.1.mx).toList,us,by rw [e,List.append_assoc],o,p,k1,Kd.snoc ho hp hk k2⟩
theorem TrV.kept {w w':World}{P:Nat->Prop}{x:Value}{t:Tr}(h:TrV w P x t)(hb:∀ b,P b->b<w.heap.size->w'.heap[b]?=w.heap[b]?):TrV w' P x t:=by
 obtain⟨v,zs,e,o,p,k⟩:=h
 exact⟨v,zs,e,Zbg o (fun k hk=>hb k (p k hk) (Za9 o hk).2),p,k.kept hb⟩
theorem TrV.mono {w:World}{P P':Nat->Prop}{x:Value}{t:Tr}(h:TrV w P x t)(hp:∀ b,b<w.heap.size->P b->P' b):TrV w P' x t:=by
 obtain⟨v,zs,e,o,p,k⟩:=h
 exact⟨v,zs,e,o,fun b hb=>hp b (Za9 o hb).2 (p b hb),k.mono hp⟩
theorem info28:∃ i,Tryz.prog.info? 27=some i/\i.zero=some (reV 0 noSet (.slice none 0 0) 0 0)/\i.size=8/\i.bytes=80:=by
 have h:(Tryz.prog.info? 27).map (fun i=>(i.zero,i.size,i.bytes))=some (some (reV 0 noSet (.slice none 0 0) 0 0),8,80):=by kernel_rfl
 cases hi:Tryz.prog.info? 27 with
 | none=>rw [hi] at h;cases h
 | some i =>
  rw [hi] at h
  simp only [Option.map_some,Option.some.injEq,Prod.mk.injEq] at h
  exact⟨i,rfl,h.1,h.2.1,h.2.2⟩
open Go.RowKit
theorem ld3 {w:World}{ad:Addr}{v:Value}(h:w.cell? ad=some v):(loadVar 3 ad).run Tryz.prog w=.ok v w:=by
 have ha:∀ w,(isAgg 3).run Tryz.prog w=.ok false w:=fun w=>by kernel_rfl
 simp [loadVar,ha,go_sem,h]
theorem ld4 {w:World}{ad:Addr}{v:Value}(h:w.cell? ad=some v):(loadVar 4 ad).run Tryz.prog w=.ok v w:=by
 have ha:∀ w,(isAgg 4).run Tryz.prog w=.ok false w:=fun w=>by kernel_rfl
 simp [loadVar,ha,go_sem,h]
theorem ld9 {w:World}{ad:Addr}{v:Value}(h:w.cell? ad=some v):(loadVar 9 ad).run Tryz.prog w=.ok v w:=by
 have ha:∀ w,(isAgg 9).run Tryz.prog w=.ok false w:=fun w=>by kernel_rfl
 simp [loadVar,ha,go_sem,h]
theorem ld26 {w:World}{ad:Addr}{v:Value}(h:w.cell? ad=some v):(loadVar 25 ad).run Tryz.prog w=.ok v w:=by
 have ha:∀ w,(isAgg 25).run Tryz.prog w=.ok false w:=fun w=>by kernel_rfl
 simp [loadVar,ha,go_sem,h]
theorem ld59 {w:World}{ad:Addr}{v:Value}(h:w.cell? ad=some v):(loadVar 183 ad).run Tryz.prog w=.ok v w:=by
 have ha:∀ w,(isAgg 183).run Tryz.prog w=.ok false w:=fun w=>by kernel_rfl
 simp [loadVar,ha,go_sem,h]
theorem ld70 {w:World}{ad:Addr}{v:Value}(h:w.cell? ad=some v):(loadVar 238 ad).run Tryz.prog w=.ok v w:=by
 have ha:∀ w,(isAgg 238).run Tryz.prog w=.ok false w:=fun w=>by kernel_rfl
 simp [loadVar,ha,go_sem,h]
theorem ZdT {w:World}{b o:Nat}{k:Int}{s:S4}{l:Value}{mn mx:Int}(h:∀ j v,(reA k s l mn mx)[j]?=some v->w.cell? ⟨b,o+j,none⟩=some v):(loadVar 27 ⟨b,o,none⟩).run Tryz.prog w=.ok (reV k s l mn mx) w:=by
 have h0:=h 0 _ rfl
 have h1:=h 1 _ rfl
 have h2:=h 2 _ rfl
 have h3:=h 3 _ rfl
 have h4:=h 4 _ rfl
 have h5:=h 5 _ rfl
 have h6:=h 6 _ rfl
 have h7:=h 7 _ rfl
 have hz:∀ w,(sizeOf 27).run Tryz.prog w=.ok 8 w:=fun w=>by kernel_rfl
 have ha:∀ w,(isAgg 27).run Tryz.prog w=.ok true w:=fun w=>by kernel_rfl
 simp only [Nat.add_zero] at h0
 simp [loadVar,hz,ha,loadCells,go_sem,h0,h1,h2,h3,h4,h5,h6,h7,Zav]
 rfl
section
variable {S:Nat->Prop}{w0 w w':World}{L:List Ent}{ops:Array Oper}{rest:List Oper}{a:Act}{Q:Exit->Act->World->Prop}{dst:Option Nat}{x y:Operand}{ty:TypeId}{pos:String}{after:Array Edge}
theorem Zax (i j:Nat)(H:St S w0 w L){b:Bool}{g:Nat}{t:TypeId}{xs:Array Value}{v:Value}(h:L[i]?=some (b,g,t,xs))(hv:xs[j]?=some v)(hx:a.eval x=.pointer (some ⟨g,j,none⟩))(k:wpList Tryz.prog ops Q rest (a.put dst v) w):wpList Tryz.prog ops Q (⟨dst,.load 3 x,ty,pos,after,none⟩::rest) a w:=Zau 3 hx (ld3 (H.cell i j h hv)) k
theorem Za3 (i j:Nat)(H:St S w0 w L){b:Bool}{g:Nat}{t:TypeId}{xs:Array Value}{v:Value}(h:L[i]?=some (b,g,t,xs))(hv:xs[j]?=some v)(hx:a.eval x=.pointer (some ⟨g,j,none⟩))(k:wpList Tryz.prog ops Q rest (a.put dst v) w):wpList Tryz.prog ops Q (⟨dst,.load 4 x,ty,pos,after,none⟩::rest) a w:=Zau 4 hx (ld4 (H.cell i j h hv)) k
theorem Zbn (i j:Nat)(H:St S w0 w L){b:Bool}{g:Nat}{t:TypeId}{xs:Array Value}{v:Value}(h:L[i]?=some (b,g,t,xs))(hv:xs[j]?=some v)(hx:a.eval x=.pointer (some ⟨g,j,none⟩))(k:wpList Tryz.prog ops Q rest (a.put dst v) w):wpList Tryz.prog ops Q (⟨dst,.load 9 x,ty,pos,after,none⟩::rest) a w:=Zau 9 hx (ld9 (H.cell i j h hv)) k
theorem Zh8 (i j:Nat)(H:St S w0 w L){b:Bool}{g:Nat}{t:TypeId}{xs:Array Value}{v:Value}(h:L[i]?=some (b,g,t,xs))(hv:xs[j]?=some v)(hx:a.eval x=.pointer (some ⟨g,j,none⟩))(k:wpList Tryz.prog ops Q rest (a.put dst v) w):wpList Tryz.prog ops Q (⟨dst,.load 25 x,ty,pos,after,none⟩::rest) a w:=Zau 25 hx (ld26 (H.cell i j h hv)) k
theorem ZaH (i j:Nat)(H:St S w0 w L){b:Bool}{g:Nat}{t:TypeId}{xs:Array Value}{v:Value}(h:L[i]?=some (b,g,t,xs))(hv:xs[j]?=some v)(hx:a.eval x=.pointer (some ⟨g,j,none⟩))(k:wpList Tryz.prog ops Q rest (a.put dst v) w):wpList Tryz.prog ops Q (⟨dst,.load 183 x,ty,pos,after,none⟩::rest) a w:=Zau 183 hx (ld59 (H.cell i j h hv)) k
theorem Zbj (i:Nat)(H:St S w0 w L){g:Nat}{u:Value}{v:Int}(h:L[i]?=some (true,g,3,#[u]))(hx:a.eval x=.pointer (some ⟨g,0,none⟩))(hy:a.eval y=.int .i64 v)
  (k:∀ w',St S w0 w' (L.set i (true,g,3,#[.int .i64 v]))->wpList Tryz.prog ops Q rest a w'):wpList Tryz.prog ops Q (⟨none,.store 3 x y,ty,pos,after,none⟩::rest) a w :=
 Zbt i 0 3 H h hx hy (by simp) one3 rfl k
theorem Zb8 (i:Nat)(H:St S w0 w L){g:Nat}{u:Value}{v:Bool}(h:L[i]?=some (true,g,4,#[u]))(hx:a.eval x=.pointer (some ⟨g,0,none⟩))(hy:a.eval y=.bool v)
  (k:∀ w',St S w0 w' (L.set i (true,g,4,#[.bool v]))->wpList Tryz.prog ops Q rest a w'):wpList Tryz.prog ops Q (⟨none,.store 4 x y,ty,pos,after,none⟩::rest) a w :=
 Zbt i 0 4 H h hx hy (by simp) one4 rfl k
theorem St.rebase (H:St S w0 w L)(S':Nat->Prop)(h:∀ x ∈ L,x.1=true->S' x.2.1):St S' w w L:=⟨But.refl _ _,H.all,fun x hx hr _=>h x hx hr,H.nd⟩
theorem St.grown (H:St S w0 w L){row:Option Nat}(hg:w.grownBy w' row)(hr:∀ k,row=some k->(∀ x ∈ L,x.2.1≠k)/\(k<w0.heap.size->S k)):St S w0 w' L :=
 ⟨H.but.grown hg (fun k hk=>(hr k hk).2),fun x hx=>by
  rw [hg.block _ (H.lt hx) (fun e=>(hr _ e.symm).1 x hx rfl)];exact H.all x hx,H.ok,H.nd⟩
end
def Rw (w:World)(base:Nat)(v:Value)(f:Fo):Prop:=∃ xs,w.ownsRow base 27 8 v f.len xs/\Kd w (fun b=>base<=b/\v.ownBlock≠some b) f xs
theorem Rw.start (w:World)(base:Nat):Rw w base (.slice none 0 0) .nil:=⟨[],⟨rfl,.inl ⟨rfl,rfl⟩⟩,rfl⟩
theorem Rw.kept {w w':World}{base:Nat}{v:Value}{f:Fo}(h:Rw w base v f)(hb:∀ b,base<=b->b<w.heap.size->w'.heap[b]?=w.heap[b]?):Rw w' base v f:=by
 obtain⟨xs,o,k⟩:=h
 exact⟨xs,Zbg o (fun b hk=>hb b (Za9 o hk).1 (Za9 o hk).2),k.kept (fun b hP hl=>hb b hP.1 hl)⟩
theorem Rw.lt {w:World}{base:Nat}{v:Value}{f:Fo}(h:Rw w base v f){k:Nat}(hk:v.ownBlock=some k):base<=k/\k<w.heap.size:=by
 obtain⟨xs,o,_⟩:=h
 exact Za9 o hk
theorem Zlq {k:Int}{s:S4}{v:Value}{mn mx:Int}(hv:v.oneCell'=true):∀ u ∈ (reA k s v mn mx).toList,u.oneCell'=true:=fun u hu=>by
 have h1:∀ k n,(Value.int k n).oneCell'=true:=fun _ _=>rfl
 simp only [reA,List.mem_cons,List.not_mem_nil,or_false] at hu
 rcases hu with rfl|rfl|rfl|rfl|rfl|rfl|rfl|rfl <;> first|exact h1 _ _|exact hv
theorem ZfY (k:Int)(s:S4)(v:Value)(mn mx:Int)(w:World):(Instr.buildSlice 25 1 #[(0,reV k s v mn mx)]).run Tryz.prog w=.ok (.slice (some ⟨w.heap.size,0,none⟩) 1 1) (w.alloc (.cells (reA k s v mn mx) 27)):=by kernel_rfl
section
variable {S:Nat->Prop}{w0 w w':World}{L:List Ent}{ops:Array Oper}{rest:List Oper}{a:Act}{Q:Exit->Act->World->Prop}{x y:Operand}{ty ty2:TypeId}{pos pos2:String}{after after2:Array Edge}
theorem Zlr {d1 d2:Nat}{s x:Operand}(h:wpList Tryz.prog ops Q (⟨some d1,.buildSlice 25 1 #[(0,x)],ty,pos,after,none⟩::⟨some d2,.call { callee:=.builtin .append,args:=#[s,.tmp d1],argTypes:=#[25,25] },ty2,pos2,after2,none⟩::rest) a w) :
  wpList Tryz.prog ops Q (⟨some d1,.buildSlice 25 1 #[(0,x)],ty,pos,after,none⟩::⟨some d2,.call { callee:=.builtin .append,args:=#[s,.tmp d1],argTypes:=#[25,25] },ty2,pos2,after2,none⟩::rest) a w:=h
theorem Zls {d1 d2:Nat}{s:Operand}(H:St S w0 w L){base m:Nat}{v z:Value}{f:Fo}{t:Tr}(R:Rw w base v f)(T:TrV w (fun b=>m<=b) z t)(hs:∀ u,(a.put (some d1) u).eval s=v)(ht:∀ u,(a.put (some d1) u).eval (.tmp d1)=u)(hx:a.eval x=z)
  (hm:∀ k,v.ownBlock=some k->k<m) (hbm:base<=m) (hmw:m<=w.heap.size) (hf:f.len<=1000000) (hL:∀ e ∈ L,e.2.1<base) (h0:w0.heap.size<=base)
  (k:∀ u v2 w2,St S w0 w2 L->Rw w2 base v2 (f.snoc t)->w.heap.size<=w2.heap.size->wpList Tryz.prog ops Q rest ((a.put (some d1) u).put (some d2) v2) w2) :
  wpList Tryz.prog ops Q (⟨some d1,.buildSlice 25 1 #[(0,x)],ty,pos,after,none⟩::⟨some d2,.call { callee:=.builtin .append,args:=#[s,.tmp d1],argTypes:=#[25,25] },ty2,pos2,after2,none⟩::rest) a w:=by
 obtain⟨i0,hi,hz0,hz1,hz2⟩:=info28
 obtain⟨u,zs,rfl,o,p,kd⟩:=T
 obtain⟨xs,ro,rk⟩:=R
 obtain⟨ua,uc,hu,_,_⟩:=ZaR o
 have hu1:u.oneCell'=true:=by rw [hu];rfl
 refine wpList_plain rfl fun K hK=>?_
 unfold Oper.wp execOp
 simp only [List.map_toArray,List.map_cons,List.map_nil,hx,Sem.run_bind,ZfY,Result.andThen_ok,Sem.run_pure]
 refine hK _ _ ?_
 generalize hA:reA t.1.k t.1.s u t.1.mn t.1.mx=A at *
 have hAl:A.toList.length=8:=by rw [<- hA];rfl
 have hold:∀ b,b<w.heap.size->(w.alloc (.cells A 27)).heap[b]?=w.heap[b]?:=fun b hb=>Below.heap_alloc _ _ _ hb
 refine wpList_append_lies (P:=Tryz.prog) (w:=w.alloc (.cells A 27)) rfl s (.tmp d1) 25 rfl base 27 i0 (reV 0 noSet (.slice none 0 0) 0 0) 8 80 Tryz.underlying25 hi hz0 hz1 hz2 rfl (by decide) v f.len xs (hs _) (Zbg ro (fun b hb=>hold b (Za9 ro hb).2)) ⟨w.heap.size,0,none⟩ 1 1 A.toList (ht _) (by omega) ?_ (by rw [<- hA];exact Zlq hu1) (by omega) (by unfold maxLen;omega) (by omega) (by simp;omega) (w.heap.size+1) (by simp) ?_
 ·intro j v' hj
  rw [Zav,Nat.zero_add,cell_of_row _ _ _ _ _ _ (heap_alloc_new w _)]
  simpa using hj
 ·intro g cap w2 hown hg hat hlt
  have H1:=(H.alloc 27 A).tail
  have hsz:w.heap.size<=w2.heap.size:=by have:=hg.size;simp at this;omega
  refine k _ _ w2 (H1.grown hg (fun j hj=>⟨fun e he=>?_,fun hl=>?_⟩)) ⟨xs++A.toList,by rw [Fo.len_snoc];exact hown,?_⟩ hsz
  ·have:=hL e he
   have:=Za9 ro hj
   omega
  ·have:=Za9 ro hj
   omega
  ·have keep:∀ b,b<w.heap.size->v.ownBlock≠some b->w2.heap[b]?=w.heap[b]?:=fun b hb hn=>by
    rw [hg.block b (by simp;omega) (fun e=>hn e.symm),hold b hb]
   have ne:∀ b,b<w.heap.size->v.ownBlock≠some b->(Value.slice (some ⟨g,0,none⟩) (f.len+1) cap).ownBlock≠some b:=fun b hb hn e=>by
    have e2:g=b:=by simpa [Value.ownBlock] using e
    rcases hat with h|h
    ·exact hn (by rw [h,e2])
    ·omega
   have far:∀ b,m<=b->v.ownBlock≠some b:=fun b hb e=>by have:=hm b e;omega
   have step:∀ {ff:Fo} {ys:List Value} {PP:Nat->Prop},Kd w PP ff ys->(∀ b,PP b->base<=b/\v.ownBlock≠some b)->Kd w2 (fun b=>base<=b/\(Value.slice (some ⟨g,0,none⟩) (f.len+1) cap).ownBlock≠some b) ff ys:=fun hk hP =>
    ((hk.mono (P':=fun b=>(base<=b/\(Value.slice (some ⟨g,0,none⟩) (f.len+1) cap).ownBlock≠some b)/\v.ownBlock≠some b) (fun b hb hp=>⟨⟨(hP b hp).1,ne b hb (hP b hp).2⟩,(hP b hp).2⟩)).kept (w':=w2) (fun b hp hl=>keep b hl hp.2)).mono (fun b _ hp=>hp.1)
   have o2:=Zbg (w':=w2) o (fun b hb=>keep b (Za9 o hb).2 (far b (p b hb)))
   rw [<- hA]
   refine Kd.snoc o2 (fun b hb=>⟨by have:=p b hb;omega,ne b (Za9 o hb).2 (far b (p b hb))⟩) (step kd (fun b hb=>⟨by omega,far b hb⟩)) (step rk (fun b hb=>hb))
end
open Go.RowKit
theorem Zcg (k:Int)(f:Fo)(v:Value)(w:World)(P:Nat->Prop)(xs:List Value)(ho:w.ownsRow 0 27 8 v f.len xs)(hp:∀ b,v.ownBlock=some b->P b)(hk:Kd w P f xs) :
  Calls Tryz.prog 123 #[.int .i64 k,v] w fun e w'=>∃ x,e=.returned x/\TrV w' P x (tog k f)/\Below w.heap.size w w':=by
 have H:=St.start Nope w
 obtain⟨a,cap,rfl,hc1,hc2⟩:=ZaR ho
 by_cases h1:f.len=1
 ·obtain⟨nd,kids,rfl⟩:∃ nd kids,f=.cons nd kids .nil:=by
   cases f with
   | nil=>simp [Fo.len] at h1
   | cons nd kids r=>cases r with
    | nil=>exact⟨nd,kids,rfl⟩
    | cons _ _ _=>simp [Fo.len] at h1
  obtain⟨v,ys,zs,e,o2,p2,k1,k2⟩:=hk
  have e2:ys=[]:=k2
  subst e2
  have hcell:∃ b,a=some ⟨b,0,none⟩/\b<w.heap.size/\∀ j u,(reA nd.k nd.s v nd.mn nd.mx)[j]?=some u->w.cell? ⟨b,0+j,none⟩=some u:=by
   rcases ho.2 with⟨_,h0⟩|⟨g,cap',cur,hv,_,hg,_⟩
   ·simp [Fo.len] at h0
   ·cases hv
    refine⟨g,rfl,(Array.getElem?_eq_some_iff.1 hg).1,fun j u hj=>?_⟩
    have:=ho.cells (g:=g) rfl j u (by rw [e];simpa using hj)
    rw [Zav] at this
    exact this
  obtain⟨b,rfl,hb,hcell⟩:=hcell
  obtain⟨va,vc,hv,_,_⟩:=ZaR o2
  subst hv
  simp only [Fo.len,Nat.zero_add] at h1 ⊢
  have T:Hid (TrV w P (reV nd.k nd.s (.slice va kids.len vc) nd.mn nd.mx) (nd,kids)):=⟨_,zs,rfl,o2,p2,k1⟩
  have hl:=Zaa (fun w' (hb':Below w.heap.size w w')=>ZdT (w:=w') (b:=b) (o:=0) (fun j u hj=>(hb'.cell (p:=⟨b,0+j,none⟩) hb).trans (hcell j u hj)))
  clear hcell ho o2 p2 k1 k2 e hp
  go_enter Tryz.func123,Tryz.ntmps123
  go_wp2_with (first|(with_reducible refine Zae 27 ?_;refine Zap H ?_;clear H;intro g w' H q1 q2)|(with_reducible refine Zac 27 ?_;refine Zau 27 rfl (hl.out _ H.below) ?_)|(with_reducible refine Zab 27 ?_;refine Zao 0 H rfl rfl rfl rfl ?_;clear H;intro w' H))
  refine bodyPost_ret (Zaf rfl _ _ _ _ rfl (ZaG (H.get 0 rfl))) rfl ?_
  refine⟨_,rfl,?_,H.below⟩
  exact T.out.kept (fun b' hP hb'=>H.below.block b' hb')
 ·have e:Hid (tog k f=(⟨k,noSet,0,0⟩,f)):=by
   show tog k f=_
   cases f with
   | nil=>rfl
   | cons nd kids r=>cases r with
    | nil=>simp [Fo.len] at h1
    | cons _ _ _=>rfl
  have h2:((f.len:Int) == 1)=false:=beq_eq_false_iff_ne.2 (by omega)
  have T:Hid (TrV w P (reV k noSet (.slice a f.len cap) 0 0) (⟨k,noSet,0,0⟩,f)):=⟨_,xs,rfl,ho,hp,hk⟩
  clear ho hp hk
  replace h1:=Zaa h1
  go_enter Tryz.func123,Tryz.ntmps123
  go_wp2_with (first|(with_reducible refine Zae 27 ?_;refine Zap H ?_;clear H;intro g w' H q1 q2)|(with_reducible refine Zab 27 ?_;refine Zao 0 (n':=k) (s':=noSet) (l':=.slice a f.len cap) (mn':=0) (mx':=0) H rfl rfl rfl rfl ?_;clear H;intro w' H))
  refine bodyPost_ret (Zaf rfl _ _ _ _ rfl (ZaG (H.get 0 rfl))) rfl ?_
  refine⟨_,rfl,?_,H.below⟩
  rw [e.out]
  exact T.out.kept (fun b' hP hb'=>H.below.block b' hb')
def brF (n:Nat):Value:=.func (.func 115) #[] #[.pointer (some ⟨n+2,0,none⟩),.pointer (some ⟨n+3,0,none⟩),.pointer (some ⟨n,0,none⟩),.pointer (some ⟨n+1,0,none⟩),.pointer (some ⟨n+4,0,none⟩)]
def atF (n:Nat):Value:=.func (.func 118) #[] #[.pointer (some ⟨n,0,none⟩),.pointer (some ⟨n+1,0,none⟩),.pointer (some ⟨n+5,0,none⟩),.pointer (some ⟨n+3,0,none⟩)]
def piF (n:Nat):Value:=.func (.func 120) #[] #[.pointer (some ⟨n+6,0,none⟩),.pointer (some ⟨n+3,0,none⟩),.pointer (some ⟨n,0,none⟩),.pointer (some ⟨n+1,0,none⟩)]
def seF (n:Nat):Value:=.func (.func 122) #[] #[.pointer (some ⟨n+3,0,none⟩),.pointer (some ⟨n+1,0,none⟩),.pointer (some ⟨n,0,none⟩),.pointer (some ⟨n+7,0,none⟩)]
def alF (n:Nat):Value:=.func (.func 124) #[] #[.pointer (some ⟨n+8,0,none⟩),.pointer (some ⟨n+3,0,none⟩),.pointer (some ⟨n,0,none⟩),.pointer (some ⟨n+1,0,none⟩)]
def env (n:Nat)(s:ByteArray)(a:Nat)(o:Int)(r:Bool):List Ent :=
 [(true,n+1,3,#[.int .i64 (a:Int)]),(true,n+2,3,#[.int .i64 o]),(true,n+3,4,#[.bool r]),(false,n,9,#[.string s]),
  (false,n+4,183,#[alF n]),(false,n+5,183,#[brF n]),(false,n+6,183,#[atF n]),(false,n+7,183,#[piF n]),(false,n+8,183,#[seF n])]
def Ev (w:World)(n:Nat)(s:ByteArray)(a:Nat)(o:Int)(r:Bool):Prop:=∀ x ∈ env n s a o r,w.heap[x.2.1]?=some (.cells x.2.2.2 x.2.2.1 (0,0))
def S3 (n:Nat):Nat->Prop:=fun k=>k=n+1\/k=n+2\/k=n+3
theorem env_nd (n:Nat)(s:ByteArray)(a:Nat)(o:Int)(r:Bool):((env n s a o r).map (·.2.1)).Nodup:=by
 simp [env,List.nodup_cons]
 try omega
theorem Ev.st {w:World}{n:Nat}{s:ByteArray}{a:Nat}{o:Int}{r:Bool}(h:Ev w n s a o r):St (S3 n) w w (env n s a o r) :=
 ⟨But.refl _ _,h,fun x hx hr _=>by
  simp only [env,List.mem_cons,List.not_mem_nil,or_false] at hx
  rcases hx with rfl|rfl|rfl|rfl|rfl|rfl|rfl|rfl|rfl <;> simp [S3] at hr ⊢,env_nd n s a o r⟩
theorem Ev.lt {w:World}{n:Nat}{s:ByteArray}{a:Nat}{o:Int}{r:Bool}(h:Ev w n s a o r):n+8<w.heap.size:=(Array.getElem?_eq_some_iff.1 (h (false,n+8,183,#[seF n]) (by simp [env]))).1
theorem St.closure {S:Nat->Prop}{w0 w w':World}{n:Nat}{s:ByteArray}{a a':Nat}{o o':Int}{r r':Bool}{M:List Ent}(H:St S w0 w (M++env n s a o r))(hb:But (S3 n) w w')(hS:∀ i,i<w0.heap.size->S3 n i->S i)(hE:Ev w' n s a' o' r'):St S w0 w' (M++env n s a' o' r'):=by
 refine H.callS hb hS (by simp [env]) (fun x hx=>?_)
 rcases List.mem_append.1 hx with h|h
 ·refine .inl ⟨List.mem_append_left _ h,fun hT=>?_⟩
  have hnd:=H.nd
  rw [List.map_append,List.nodup_append] at hnd
  have h1:x.2.1 ∈ M.map (·.2.1):=List.mem_map.2 ⟨x,h,rfl⟩
  have h2:x.2.1 ∈ (env n s a o r).map (·.2.1):=by
   rcases hT with e|e|e <;> rw [e] <;> simp [env]
  exact hnd.2.2 _ h1 _ h2 rfl
 ·exact .inr (hE x h)
theorem St.ev {S:Nat->Prop}{w0 w:World}{n:Nat}{s:ByteArray}{a:Nat}{o:Int}{r:Bool}{M:List Ent}(H:St S w0 w (M++env n s a o r)):Ev w n s a o r:=fun x hx=>H.all x (List.mem_append_right _ hx)
def Agree (res:Out)(t:Tr)(a:Nat)(o':Int)(r:Bool)(o:Int):Prop:=match res with
 | .error p=>r=false/\a=p
 | .ok (t',d)=>r=true/\a=d/\t=t'/\o'=o
def Post (n:Nat)(s:ByteArray)(o:Int)(w:World)(res:Out)(e:Ending)(w':World):Prop :=
 ∃ x t a' o' r',e=.returned x/\TrV w' (fun b=>w.heap.size<=b) x t/\Ev w' n s a' o' r'/\But (S3 n) w w'/\Agree res t a' o' r' o
theorem TrV.leafV (w:World)(P:Nat->Prop)(x:S4):TrV w P (reV 1 x (.slice none 0 0) 0 0) (leaf x):=⟨_,[],rfl,⟨rfl,.inl ⟨rfl,rfl⟩⟩,fun b hb=>(by cases hb),rfl⟩
theorem TrV.val {w:World}{P:Nat->Prop}{x:Value}{t:Tr}(h:TrV w P x t):∃ a n c,x=reV t.1.k t.1.s (.slice a n c) t.1.mn t.1.mx:=by
 obtain⟨v,zs,e,o,p,k⟩:=h
 obtain⟨a,c,rfl,_,_⟩:=ZaR o
 exact⟨a,_,c,e⟩
theorem ZdA {w0 w:World}{L:List Ent}{n:Nat}(h:Tab w0)(H:St (S3 n) w0 w L)(hn:0<n):Tab w:=h.st H (by intro k hk;simp [S3];omega)
theorem St.rebaseE {S:Nat->Prop}{w0 w:World}{n:Nat}{s:ByteArray}{a:Nat}{o:Int}{r:Bool}{M:List Ent}(H:St S w0 w (M++env n s a o r))(Q:Nat->Prop)(hQ:∀ x ∈ M,Q x.2.1):St (fun k=>S3 n k\/Q k) w w (M++env n s a o r) :=
 H.rebase _ (fun x hx hr=>by
  rcases List.mem_append.1 hx with h|h
  ·exact .inr (hQ x h)
  ·refine .inl ?_
   simp only [env,List.mem_cons,List.not_mem_nil,or_false] at h
   rcases h with rfl|rfl|rfl|rfl|rfl|rfl|rfl|rfl|rfl <;> simp [S3] at hr ⊢)
def BrOk (n:Nat)(s:ByteArray)(o:Int)(br:Nat->Out):Prop:=∀ (w:World)(a:Nat),Ev w n s a o true->Tab w->bt s a=40 ->
 Calls Tryz.prog 115 #[.pointer (some ⟨n+2,0,none⟩),.pointer (some ⟨n+3,0,none⟩),.pointer (some ⟨n,0,none⟩),.pointer (some ⟨n+1,0,none⟩),.pointer (some ⟨n+4,0,none⟩)] w (Post n s o w (br a))
theorem atom_any (n:Nat)(hn:0<n)(s:ByteArray)(hs:s.size<=256)(o:Int)(br:Nat->Out)(hbr:BrOk n s o br)(w:World)(hT:Tab w)(a:Nat)(ha:a<=s.size)(hE:Ev w n s a o true) :
  Calls Tryz.prog 118 #[.pointer (some ⟨n,0,none⟩),.pointer (some ⟨n+1,0,none⟩),.pointer (some ⟨n+5,0,none⟩),.pointer (some ⟨n+3,0,none⟩)] w (Post n s o w (Zh7 br s a)):=by
 have H:St (S3 n) w w (env n s a o true):=hE.st
 unfold Zh7
 generalize hc:bt s a=c
 by_cases h40:c=40
 ·subst h40
  rw [if_pos rfl]
  replace hc:=Zaa hc
  go_enter Tryz.func118,Tryz.ntmps118
  go_wp2_with (first|(with_reducible refine Zae 27 ?_;refine Zap H ?_;clear H;intro g w' H q1 q2)|(with_reducible refine Zac 9 ?_;first|(refine Zbn 4 0 H rfl rfl rfl ?_))|(with_reducible refine Zac 3 ?_;first|(refine Zax 1 0 H rfl rfl rfl ?_))|(with_reducible refine Zac 4 ?_;first|(refine Za3 3 0 H rfl rfl rfl ?_))|(with_reducible refine Zac 183 ?_;first|(refine ZaH 6 0 H rfl rfl rfl ?_;simp only [brF,atF,piF,seF,alF])))
  refine (Zam s a _ rfl).mono ?_
  rintro e w1 ⟨rfl,rfl⟩
  rw [hc.out]
  go_wp2_with (first|(with_reducible refine Zac 9 ?_;first|(refine Zbn 4 0 H rfl rfl rfl ?_))|(with_reducible refine Zac 3 ?_;first|(refine Zax 1 0 H rfl rfl rfl ?_))|(with_reducible refine Zac 4 ?_;first|(refine Za3 3 0 H rfl rfl rfl ?_))|(with_reducible refine Zac 183 ?_;first|(refine ZaH 6 0 H rfl rfl rfl ?_;simp only [brF,atF,piF,seF,alF])))
  have P1:=hbr w1 a (St.ev (M:=[_]) H) (ZdA hT H hn) hc.out
  have hg:=H.lti 0 rfl
  have hge:=q1
  refine P1.mono ?_
  rintro e w2 ⟨x,t,a',o',r',rfl,T,E2,B2,A2⟩
  have W2:=St.closure (M:=[_]) H B2 (fun i _ h=>h) E2
  have hlt:=E2.lt
  have hE8:=(St.ev (M:=[_]) H).lt
  have hs1:=H.but.size
  clear H
  have H:=St.rebaseE (M:=[_]) W2 (fun k=>k=g) (fun x hx=>by simp only [List.mem_cons,List.not_mem_nil,or_false] at hx;subst hx;rfl)
  obtain⟨va,vn,vc,hx⟩:=T.val
  subst hx
  go_wp2_with (first|(with_reducible refine Zab 27 ?_;refine Zao 0 H rfl rfl rfl rfl ?_;clear H;intro w' H))
  refine bodyPost_ret (Zaf rfl _ _ _ _ rfl (ZaG (H.get 0 rfl))) rfl ?_
  refine⟨_,t,a',o',r',rfl,?_,St.ev (M:=[_]) H,W2.but.trans H.but (fun i hi h=>by rcases h with h|h;exact h;omega),A2⟩
  exact (T.kept (fun b hP hb=>H.but.block b hb (fun h=>by rcases h with h|h;simp only [S3] at h;omega;omega))).mono (fun b _ hP=>by omega)
 ·rw [if_neg h40]
  have n40:(c == 40)=false:=beq_eq_false_iff_ne.2 h40
  replace h40:=Zaa h40
  replace hc:=Zaa hc
  have PS:=Zaa (fun w hT z hz=>set_any s hs a ha w hT (z:=z) hz)
  generalize Zlk s a=r0 at PS ⊢
  obtain⟨x,d,ok⟩:=r0
  simp only at PS ⊢
  generalize hres:(if ok=true then Except.ok (leaf x,d) else Except.error d:Out)=res
  replace hres:=Zaa hres
  go_enter Tryz.func118,Tryz.ntmps118
  go_wp2_with (first|(with_reducible refine Zae 27 ?_;refine Zap H ?_;clear H;intro g w' H q1 q2)|(with_reducible refine Zac 9 ?_;first|(refine Zbn 4 0 H rfl rfl rfl ?_))|(with_reducible refine Zac 3 ?_;first|(refine Zax 1 0 H rfl rfl rfl ?_))|(with_reducible refine Zac 4 ?_;first|(refine Za3 3 0 H rfl rfl rfl ?_))|(with_reducible refine Zac 183 ?_;first|(refine ZaH 6 0 H rfl rfl rfl ?_;simp only [brF,atF,piF,seF,alF]))|(with_reducible refine Zab 3 ?_;first|(refine ZdS 0 H rfl rfl rfl ?_;clear H;intro w' H)|(refine Zbj 1 H rfl rfl rfl ?_;clear H;intro w' H))|(with_reducible refine Zab 4 ?_;refine Zb8 3 H rfl rfl rfl ?_;clear H;intro w' H)|(with_reducible refine Zab 24 ?_;refine ZeD 0 H rfl rfl rfl ?_;clear H;intro w' H)|(with_reducible refine Zac 27 ?_;refine Zas 0 H rfl rfl ?_)|(with_reducible refine Zab 27 ?_;refine Zao 0 H rfl rfl rfl rfl ?_;clear H;intro w' H))
  refine (Zam s a _ rfl).mono ?_
  rintro e w1 ⟨rfl,rfl⟩
  rw [hc.out]
  go_wp2_with (first|(with_reducible refine Zae 27 ?_;refine Zap H ?_;clear H;intro g w' H q1 q2)|(with_reducible refine Zac 9 ?_;first|(refine Zbn 4 0 H rfl rfl rfl ?_))|(with_reducible refine Zac 3 ?_;first|(refine Zax 1 0 H rfl rfl rfl ?_))|(with_reducible refine Zac 4 ?_;first|(refine Za3 3 0 H rfl rfl rfl ?_))|(with_reducible refine Zac 183 ?_;first|(refine ZaH 6 0 H rfl rfl rfl ?_;simp only [brF,atF,piF,seF,alF]))|(with_reducible refine Zab 3 ?_;first|(refine ZdS 0 H rfl rfl rfl ?_;clear H;intro w' H)|(refine Zbj 1 H rfl rfl rfl ?_;clear H;intro w' H))|(with_reducible refine Zab 4 ?_;refine Zb8 3 H rfl rfl rfl ?_;clear H;intro w' H)|(with_reducible refine Zab 24 ?_;refine ZeD 0 H rfl rfl rfl ?_;clear H;intro w' H)|(with_reducible refine Zac 27 ?_;refine Zas 0 H rfl rfl ?_)|(with_reducible refine Zab 27 ?_;refine Zao 0 H rfl rfl rfl rfl ?_;clear H;intro w' H))
  refine (PS.out _ (ZdA hT H hn) _ rfl).mono ?_
  rintro e w2 ⟨rfl,b2⟩
  replace H:=H.call b2 (Nat.le_refl _)
  go_wp2_with (first|(with_reducible refine Zae 27 ?_;refine Zap H ?_;clear H;intro g w' H q1 q2)|(with_reducible refine Zac 9 ?_;first|(refine Zbn 4 0 H rfl rfl rfl ?_))|(with_reducible refine Zac 3 ?_;first|(refine Zax 1 0 H rfl rfl rfl ?_))|(with_reducible refine Zac 4 ?_;first|(refine Za3 3 0 H rfl rfl rfl ?_))|(with_reducible refine Zac 183 ?_;first|(refine ZaH 6 0 H rfl rfl rfl ?_;simp only [brF,atF,piF,seF,alF]))|(with_reducible refine Zab 3 ?_;first|(refine ZdS 0 H rfl rfl rfl ?_;clear H;intro w' H)|(refine Zbj 1 H rfl rfl rfl ?_;clear H;intro w' H))|(with_reducible refine Zab 4 ?_;refine Zb8 3 H rfl rfl rfl ?_;clear H;intro w' H)|(with_reducible refine Zab 24 ?_;refine ZeD 0 H rfl rfl rfl ?_;clear H;intro w' H)|(with_reducible refine Zac 27 ?_;refine Zas 0 H rfl rfl ?_)|(with_reducible refine Zab 27 ?_;refine Zao 0 H rfl rfl rfl rfl ?_;clear H;intro w' H))
  refine bodyPost_ret (Zaf rfl _ _ _ _ rfl (ZaG (H.get 0 rfl))) rfl ?_
  refine⟨_,leaf x,d,o,ok,rfl,TrV.leafV _ _ x,St.ev (M:=[_]) H,H.but,?_⟩
  rw [<- hres.out]
  cases ok with
  | true=>exact⟨rfl,rfl,rfl,rfl⟩
  | false=>exact⟨rfl,rfl⟩
open Go.RowKit
def Fo.sz:Fo->Nat
 | .nil=>0
 | .cons _ k r=>1+k.sz+r.sz
def Fo.dp:Fo->Nat
 | .nil=>0
 | .cons _ k r=>max (1+k.dp) r.dp
def Zdv (n:Nd)(len:Nat):Prop:=(n.k≠1->n.s=noSet)/\(n.k=4->len=1/\arT n.mn n.mx=true)/\(n.k≠4->n.mn=0/\n.mx=0)/\(n.k=1/\len=0\/n.k=2\/n.k=3\/n.k=4)
def Fo.fit:Fo->Prop
 | .nil=>True
 | .cons n k r=>Zdv n k.len/\k.fit/\r.fit
def szT (t:Tr):Nat:=1+t.2.sz
def dpT (t:Tr):Nat:=1+t.2.dp
def ZcF (t:Tr):Prop:=Zdv t.1 t.2.len/\t.2.fit
theorem Fo.sz_snoc (f:Fo)(t:Tr):(f.snoc t).sz=f.sz+szT t:=by
 induction f with
 | nil=>simp [Fo.snoc,Fo.sz,szT]
 | cons n k r _ ih=>simp [Fo.snoc,Fo.sz,ih];omega
theorem Fo.dp_snoc (f:Fo)(t:Tr):(f.snoc t).dp=max f.dp (dpT t):=by
 induction f with
 | nil=>simp [Fo.snoc,Fo.dp,dpT]
 | cons n k r _ ih=>simp [Fo.snoc,Fo.dp,ih] <;> omega
theorem Fo.fit_snoc {f:Fo}{t:Tr}(hf:f.fit)(ht:ZcF t):(f.snoc t).fit:=by
 induction f with
 | nil=>exact⟨ht.1,ht.2,trivial⟩
 | cons n k r _ ih=>exact⟨hf.1,hf.2.1,ih hf.2.2⟩
theorem ZgP (k:Int)(f:Fo):(∃ n kids,f=.cons n kids .nil/\tog k f=(n,kids))\/(f.len≠1/\tog k f=(⟨k,noSet,0,0⟩,f)):=by
 cases f with
 | nil=>exact .inr ⟨by simp [Fo.len],rfl⟩
 | cons n kids r=>cases r with
  | nil=>exact .inl ⟨n,kids,rfl,rfl⟩
  | cons _ _ _=>exact .inr ⟨by simp [Fo.len],rfl⟩
def GoodP (s:ByteArray)(D a:Nat)(out:Out):Prop:=match out with
 | .error p=>p<=s.size
 | .ok (t,d)=>a<d/\d<=s.size/\ZcF t/\szT t+1<=2 * (d - a)/\dpT t<=D
def GoodA (s:ByteArray)(D a:Nat)(out:Out):Prop:=match out with
 | .error p=>p<=s.size
 | .ok (t,d)=>a<=d/\d<=s.size/\ZcF t/\szT t<=2 * (d - a)+1/\dpT t<=D
def Zdi (s:ByteArray)(D:Nat)(br:Nat->Out):Prop:=∀ a,bt s a=40->GoodP s D a (br a)
theorem leaf_fit (x:S4):ZcF (leaf x):=⟨⟨fun h=>(h rfl).elim,fun h=>(by simp [leaf] at h),fun _=>⟨rfl,rfl⟩,.inl ⟨rfl,rfl⟩⟩,trivial⟩
theorem ZgQ {s:ByteArray}{D:Nat}{br:Nat->Out}(hD:1<=D)(hb:Zdi s D br)(a:Nat)(ha:a<=s.size):GoodP s D a (Zh7 br s a):=by
 unfold Zh7
 split
 ·exact hb a (by assumption)
 ·obtain⟨o1,f1,f2,f3⟩:=set_far s a
  split
  ·rename_i h
   have:=f3 h
   exact⟨this.1,this.2,leaf_fit _,by simp [szT,leaf,Fo.sz];omega,by simp [dpT,leaf,Fo.dp];omega⟩
  ·show _<=_;omega
theorem rep_fit {t:Tr}(h:ZcF t){mn mx:Int}(ht:arT mn mx=true):ZcF (rep t mn mx) :=
 ⟨⟨fun _=>rfl,fun _=>⟨rfl,ht⟩,fun h=>(h rfl).elim,.inr (.inr (.inr rfl))⟩,h.1,h.2,trivial⟩
theorem Zfr {s:ByteArray}{D:Nat}{br:Nat->Out}(hD:1<=D)(hb:Zdi s D br)(a:Nat)(ha:a<=s.size):GoodP s (D+1) a (Zfq br s a):=by
 have h1:=ZgQ hD hb a ha
 unfold Zfq
 split
 ·rename_i p e
  rw [e] at h1
  exact h1
 ·rename_i t d e
  rw [e] at h1
  obtain⟨g1,g2,g3,g4,g5⟩:=h1
  obtain⟨f1,f2,f3⟩:=Zlm s d g2
  split
  ·rename_i h
   rcases f3 h with⟨e1,e2⟩|⟨e1,e2,e3⟩
   ·rw [if_neg (by rw [e1];simp)]
    rw [e2]
    exact⟨g1,g2,g3,g4,by omega⟩
   ·rw [if_pos e1]
    refine⟨by omega,f2,rep_fit g3 e3,?_,?_⟩
    ·simp only [szT,rep,Fo.sz] at *;omega
    ·simp only [dpT,rep,Fo.dp] at *;omega
  ·exact f2
theorem ZeE {s:ByteArray}{D:Nat}{br:Nat->Out}(hD:1<=D)(hb:Zdi s D br)(a0:Nat):∀ (n:Nat)(f:Fo)(a:Nat),a0<=a->a<=s.size->f.fit->f.sz+f.len<=2 * (a - a0)->f.dp<=D+1 ->
  match Zlo br s n f a with
  | .error p=>p<=s.size
  | .ok (f',d)=>a0<=d/\d<=s.size/\f'.fit/\f'.sz+f'.len<=2 * (d - a0)/\f'.dp<=D+1
 | 0,f,a,h0,h1,h2,h3,h4=>⟨h0,h1,h2,h3,h4⟩
 | n+1,f,a,h0,h1,h2,h3,h4=>by
  unfold Zlo
  have hp:=Zfr hD hb a h1
  split
  ·rename_i hs
   split at hs
   ·rename_i hc
    split at hs
    ·rename_i p e;rw [e] at hp;cases hs;exact hp
    ·rename_i t d e
     rw [e] at hp
     obtain⟨g1,g2,g3,g4,g5⟩:=hp
     have:=ZeE hD hb a0 n (f.snoc t) d (by omega) g2 (Fo.fit_snoc h2 g3) (by rw [Fo.sz_snoc,Fo.len_snoc];omega) (by rw [Fo.dp_snoc];omega)
     rw [hs] at this
     exact this
   ·cases hs
  ·rename_i hs
   split at hs
   ·split at hs
    ·cases hs
    ·rename_i t d e
     rw [e] at hp
     obtain⟨g1,g2,g3,g4,g5⟩:=hp
     have:=ZeE hD hb a0 n (f.snoc t) d (by omega) g2 (Fo.fit_snoc h2 g3) (by rw [Fo.sz_snoc,Fo.len_snoc];omega) (by rw [Fo.dp_snoc];omega)
     rw [hs] at this
     exact this
   ·cases hs;exact⟨h0,h1,h2,h3,h4⟩
theorem Zfs {n:Nd}{k:Fo}(h:(Fo.cons n k .nil).fit):ZcF (n,k):=⟨h.1,h.2.1⟩
theorem ZfZ {s:ByteArray}{D:Nat}{br:Nat->Out}(hD:1<=D)(hb:Zdi s D br)(a:Nat)(ha:a<=s.size):GoodA s (D+2) a (Zlp br s a):=by
 have h:=ZeE hD hb a (s.size+1 - a) .nil a (Nat.le_refl _) ha trivial (by simp [Fo.sz,Fo.len]) (by simp [Fo.dp])
 unfold Zlp
 split
 ·rename_i p e;rw [e] at h;exact h
 ·rename_i f d e
  rw [e] at h
  obtain⟨h1,h2,h3,h4,h5⟩:=h
  rcases ZgP 2 f with⟨n,k,rfl,e2⟩|⟨hl,e2⟩
  ·rw [e2]
   refine⟨h1,h2,Zfs h3,?_,?_⟩
   ·simp only [szT,Fo.sz,Fo.len] at *;omega
   ·simp only [dpT,Fo.dp] at *;omega
  ·rw [e2]
   refine⟨h1,h2,⟨⟨fun _=>rfl,fun h=>(by simp at h),fun _=>⟨rfl,rfl⟩,.inr (.inl rfl)⟩,h3⟩,?_,?_⟩
   ·simp only [szT] at *;omega
   ·simp only [dpT] at *;omega
theorem ZgR {s:ByteArray}{D:Nat}{br:Nat->Out}(hD:1<=D)(hb:Zdi s D br)(a0:Nat):∀ (n:Nat)(f:Fo)(a:Nat),a0<=a->a<=s.size->f.fit->f.sz+f.len<=2 * (a - a0)+2->f.dp<=D+2 ->
  match altL br s n f a with
  | .error p=>p<=s.size
  | .ok (f',d)=>a0<=d/\d<=s.size/\f'.fit/\f'.sz+f'.len<=2 * (d - a0)+2/\f'.dp<=D+2
 | 0,f,a,h0,h1,h2,h3,h4=>⟨h0,h1,h2,h3,h4⟩
 | n+1,f,a,h0,h1,h2,h3,h4=>by
  unfold altL
  by_cases hc:bt s a=124
  ·have hl:=ZbD (s:=s) (k:=a) (by omega)
   have hp:=ZfZ hD hb (a+1) (by omega)
   simp only [hc,if_true]
   generalize hq:Zlp br s (a+1)=q at hp
   cases q with
   | error p=>exact hp
   | ok td =>
    obtain⟨t,d⟩:=td
    obtain⟨g1,g2,g3,g4,g5⟩:=hp
    exact ZgR hD hb a0 n (f.snoc t) d (by omega) g2 (Fo.fit_snoc h2 g3) (by rw [Fo.sz_snoc,Fo.len_snoc];omega) (by rw [Fo.dp_snoc];omega)
  ·simp only [hc,if_false]
   exact⟨h0,h1,h2,h3,h4⟩
theorem Zf0 {s:ByteArray}{D:Nat}{br:Nat->Out}(hD:1<=D)(hb:Zdi s D br)(a:Nat)(ha:a<=s.size):GoodA s (D+3) a (Zk7 br s a):=by
 have h:=ZfZ hD hb a ha
 unfold Zk7
 split
 ·rename_i p e;rw [e] at h;exact h
 ·rename_i t d e
  rw [e] at h
  obtain⟨g1,g2,g3,g4,g5⟩:=h
  have h:=ZgR hD hb a (s.size+1 - d) (Fo.nil.snoc t) d g1 g2 (Fo.fit_snoc trivial g3) (by rw [Fo.sz_snoc,Fo.len_snoc];simp [Fo.sz,Fo.len];omega) (by rw [Fo.dp_snoc];simp [Fo.dp];omega)
  split
  ·rename_i p e2;rw [e2] at h;exact h
  ·rename_i f d2 e2
   rw [e2] at h
   obtain⟨h1,h2,h3,h4,h5⟩:=h
   rcases ZgP 3 f with⟨n,k,rfl,e3⟩|⟨hl,e3⟩
   ·rw [e3]
    refine⟨h1,h2,Zfs h3,?_,?_⟩
    ·simp only [szT,Fo.sz,Fo.len] at *;omega
    ·simp only [dpT,Fo.dp] at *;omega
   ·rw [e3]
    refine⟨h1,h2,⟨⟨fun _=>rfl,fun h=>(by simp at h),fun _=>⟨rfl,rfl⟩,.inr (.inr (.inl rfl))⟩,h3⟩,?_,?_⟩
    ·have:f.len≠1:=hl
     cases f with
     | nil=>simp only [szT,Fo.sz,Fo.len] at *;omega
     | cons n k r=>simp only [szT,Fo.len] at *;omega
    ·simp only [dpT] at *;omega
theorem op_far (s:ByteArray)(a:Nat)(h:a<s.size):a<(opR s a).1/\(opR s a).1<=s.size:=by
 unfold opR
 split
 ·rename_i h1
  have:=ZbD (s:=s) (k:=a+1) (by omega)
  split
  ·rename_i h2
   have:=ZbD (s:=s) (k:=a+2) (by omega)
   simp;omega
  ·simp;omega
 ·simp;omega
theorem ZeF (s:ByteArray):∀ m,Zdi s (3 * m+1) (brM s m)
 | 0=>fun a ha=>by have:=ZbD (s:=s) (k:=a) (by omega);show a<=s.size;omega
 | m+1=>fun a ha=>by
  have hl:=ZbD (s:=s) (k:=a) (by omega)
  obtain⟨o1,o2⟩:=op_far s a hl
  have h:=Zf0 (by omega) (ZeF s m) (opR s a).1 o2
  unfold brM
  split
  ·split
   ·rename_i p e;rw [e] at h;exact h
   ·rename_i t d e
    rw [e] at h
    obtain⟨g1,g2,g3,g4,g5⟩:=h
    split
    ·rename_i h41
     have:=ZbD (s:=s) (k:=d) (by omega)
     exact⟨by omega,by omega,g3,by omega,by omega⟩
    ·exact g2
  ·exact o2
theorem Zkl (s:ByteArray):match Zdh s with
  | .error p=>p<=s.size
  | .ok t=>ZcF t/\szT t<=2 * s.size+1/\dpT t<=100:=by
 have h:=Zf0 (by omega) (ZeF s 32) 0 (Nat.zero_le _)
 unfold Zdh
 generalize Zk7 (brM s 32) s 0=q at h ⊢
 cases q with
 | error p=>exact h
 | ok td =>
  obtain⟨t,d⟩:=td
  obtain⟨g1,g2,g3,g4,g5⟩:=h
  by_cases hd:d=s.size
  ·simp only [hd,if_true]
   exact⟨g3,by omega,by omega⟩
  ·simp only [hd,if_false]
   exact g2
end
section
open Go.RowKit
structure Ins where
 op:Int
 s:S4
 x:Int
 y:Int
structure Cd where
 n:Nat
 put:Nat->Nat->List Ins
 len:∀ a m,(put a m).length=n
 pos:1<=n
def sgl (op:Int)(s:S4):Cd:=⟨1,fun _ m=>[⟨op,s,(m:Int),0⟩],fun _ _=>rfl,Nat.le_refl _⟩
def endC:Cd:=⟨1,fun _ _=>[⟨3,noSet,0,0⟩],fun _ _=>rfl,Nat.le_refl _⟩
def ZbJ:List Cd->Nat
 | []=>0
 | c::r=>c.n+ZbJ r
theorem ZbS (p q:List Cd):ZbJ (p++q)=ZbJ p+ZbJ q:=by
 induction p with
 | nil=>simp [ZbJ]
 | cons c r ih=>simp [ZbJ,ih];omega
theorem Zf1 {c:Cd}{r:List Cd}:1<=ZbJ (c::r):=by have:=c.pos;simp only [ZbJ];omega
theorem Zji (k:Nat)(c:Cd):ZbJ (List.replicate k c)=k * c.n:=by
 induction k with
 | zero=>simp [ZbJ]
 | succ k ih=>simp [List.replicate_succ,ZbJ,ih,Nat.succ_mul];omega
def Zft:List Cd->Nat->List Ins
 | [],_=>[]
 | c::r,a=>c.put a (a+c.n)++Zft r (a+c.n)
def sqP:List Cd->Nat->Nat->List Ins
 | [],_,m=>[⟨4,noSet,(m:Int),0⟩]
 | [c],a,m=>c.put a m
 | c::d::r,a,m=>c.put a (a+c.n)++sqP (d::r) (a+c.n) m
theorem Zh9:∀ (l:List Cd)(a m:Nat),(sqP l a m).length=max 1 (ZbJ l)
 | [],a,m=>rfl
 | [c],a,m=>by have:=c.pos;simp only [sqP,c.len,ZbJ];omega
 | c::d::r,a,m=>by
  have h:=Zh9 (d::r) (a+c.n) m
  have p1:=@Zf1 d r
  simp only [sqP,List.length_append,c.len,h]
  show _=max 1 (c.n+ZbJ (d::r))
  omega
def sqn (l:List Cd):Cd:=⟨max 1 (ZbJ l),sqP l,Zh9 l,Nat.le_max_left _ _⟩
theorem Zeo:∀ (l:List Cd)(a:Nat),(Zft l a).length=ZbJ l
 | [],a=>rfl
 | c::r,a=>by simp only [Zft,List.length_append,c.len,Zeo r,ZbJ]
theorem ZgS:∀ (p:List Cd)(c:Cd)(a:Nat),Zft (p++[c]) a=Zft p a++c.put (a+ZbJ p) (a+ZbJ p+c.n)
 | [],c,a=>by simp [Zft,ZbJ]
 | d::r,c,a=>by
  simp only [List.cons_append,Zft,ZgS r c,ZbJ,List.append_assoc,Nat.add_assoc]
theorem Zjj:∀ (p:List Cd)(c:Cd)(a m:Nat),sqP (p++[c]) a m=Zft p a++c.put (a+ZbJ p) m
 | [],c,a,m=>by simp [sqP,Zft,ZbJ]
 | [d],c,a,m=>by simp [sqP,Zft,ZbJ]
 | d::e::r,c,a,m=>by
  have h:=Zjj (e::r) c (a+d.n) m
  simp only [List.cons_append] at h ⊢
  rw [sqP,h]
  simp only [Zft,ZbJ,List.append_assoc,Nat.add_assoc]
def cpN:List Cd->Nat
 | []=>0
 | c::r=>1+c.n+cpN r
def cpP:List Cd->Nat->Nat->List Ins
 | [],_,_=>[]
 | c::r,a,m=>⟨2,noSet,((a+1:Nat):Int),((a+1+c.n:Nat):Int)⟩::(c.put (a+1) m++cpP r (a+1+c.n) m)
def chP:List Cd->Nat->Nat->List Ins
 | [],_,m=>[⟨1,noSet,(m:Int),0⟩]
 | [c],a,m=>c.put a m
 | c::d::r,a,m=>⟨2,noSet,((a+1:Nat):Int),((a+1+c.n:Nat):Int)⟩::(c.put (a+1) m++chP (d::r) (a+1+c.n) m)
def chN:List Cd->Nat
 | []=>1
 | [c]=>c.n
 | c::d::r=>1+c.n+chN (d::r)
theorem Zlt:∀ l:List Cd,1<=chN l
 | []=>Nat.le_refl _
 | [c]=>c.pos
 | c::d::r=>by simp only [chN];omega
theorem Zlu:∀ (l:List Cd)(a m:Nat),(chP l a m).length=chN l
 | [],a,m=>rfl
 | [c],a,m=>c.len a m
 | c::d::r,a,m=>by simp only [chP,List.length_cons,List.length_append,c.len,Zlu (d::r),chN];omega
def chc (l:List Cd):Cd:=⟨chN l,chP l,Zlu l,Zlt l⟩
theorem Zf2:∀ (p:List Cd)(c:Cd),chN (p++[c])=cpN p+c.n
 | [],c=>by simp [chN,cpN]
 | [d],c=>by simp [chN,cpN]
 | d::e::r,c=>by
  have h:=Zf2 (e::r) c
  simp only [List.cons_append] at h ⊢
  rw [chN,h];simp only [cpN];omega
theorem ZdU (p q:List Cd):cpN (p++q)=cpN p+cpN q:=by
 induction p with
 | nil=>simp [cpN]
 | cons c r ih=>simp [cpN,ih];omega
theorem Zjk:∀ (p:List Cd)(c:Cd)(a m:Nat),chP (p++[c]) a m=cpP p a m++c.put (a+cpN p) m
 | [],c,a,m=>by simp [chP,cpP,cpN]
 | [d],c,a,m=>by simp [chP,cpP,cpN,Nat.add_assoc]
 | d::e::r,c,a,m=>by
  have h:=Zjk (e::r) c (a+1+d.n) m
  simp only [List.cons_append] at h ⊢
  rw [chP,h]
  simp only [cpP,cpN,List.append_assoc,Nat.add_assoc,List.cons_append]
theorem Zf3:∀ (l:List Cd)(a m:Nat),(cpP l a m).length=cpN l
 | [],a,m=>rfl
 | c::r,a,m=>by simp only [cpP,List.length_cons,List.length_append,c.len,Zf3 r,cpN];omega
def opt (c:Cd)(o:Nat):Cd:=⟨1+c.n,fun a m=>⟨2,noSet,((a+1:Nat):Int),(o:Int)⟩::c.put (a+1) m,fun a m=>by simp only [List.length_cons,c.len];omega,by omega⟩
def lp (c:Cd):Cd:=⟨1+c.n,fun a m=>⟨2,noSet,((a+1:Nat):Int),(m:Int)⟩::c.put (a+1) a,fun a m=>by simp only [List.length_cons,c.len];omega,by omega⟩
theorem Zjl:∀ (p:List Cd)(c:Cd)(a m:Nat),cpP (p++[c]) a m=cpP p a m++(opt c (a+cpN p+1+c.n)).put (a+cpN p) m
 | [],c,a,m=>by simp [cpP,cpN,opt]
 | d::r,c,a,m=>by
  have e:a+1+d.n+cpN r=a+cpN (d::r):=by simp only [cpN];omega
  simp only [List.cons_append,cpP,Zjl r c,e,List.append_assoc]
def rpL (c:Cd)(mn:Nat)(mx:Int)(m:Nat):List Cd:=List.replicate mn c++(if mx=-1 then [lp c] else List.replicate (mx.toNat - mn) (opt c m))
theorem ZdV (c:Cd)(mn:Nat)(mx:Int)(m:Nat):ZbJ (rpL c mn mx m)=mn * c.n+(if mx=-1 then c.n+1 else (mx.toNat - mn) * (c.n+1)):=by
 unfold rpL
 rw [ZbS,Zji]
 split
 ·simp [ZbJ,lp];omega
 ·rw [Zji];simp only [opt];rw [Nat.add_comm 1]
def rp (c:Cd)(mn:Nat)(mx:Int):Cd:=⟨max 1 (ZbJ (rpL c mn mx 0)),fun a m=>sqP (rpL c mn mx m) a m,fun a m=>by rw [Zh9,ZdV,ZdV],Nat.le_max_left _ _⟩
def cdN (n:Nd)(l:List Cd):Cd:=if n.k=1 then sgl 1 n.s else if n.k=4 then rp (l.headD (sgl 4 noSet)) n.mn.toNat n.mx else if n.k=3 then chc l else sqn l
def Fo.cds:Fo->List Cd
 | .nil=>[]
 | .cons n k r=>cdN n k.cds::r.cds
theorem Fo.cds_len:∀ f:Fo,f.cds.length=f.len
 | .nil=>rfl
 | .cons n k r=>by simp [Fo.cds,Fo.len,Fo.cds_len r]
def cdT (t:Tr):Cd:=cdN t.1 t.2.cds
def prg (t:Tr):Cd:=sqn [cdT t,endC]
theorem prg_n (t:Tr):(prg t).n=(cdT t).n+1:=by have:=(cdT t).pos;simp only [prg,sqn,ZbJ,endC];omega
theorem Zf4 (t:Tr):(prg t).put 0 0=(cdT t).put 0 (cdT t).n++[⟨3,noSet,0,0⟩]:=by simp [prg,sqn,sqP,endC]
def cap:Nat:=1048576
def SzOk (z n:Nat):Prop:=min z cap=min n cap
theorem SzOk.exact {z n:Nat}(h:SzOk z n)(hn:n<cap):z=n:=by unfold SzOk at h;omega
theorem SzOk.add {z n y m:Nat}(h:SzOk z n)(k:SzOk y m):SzOk (min (z+y) cap) (n+m):=by unfold SzOk at *;omega
theorem SzOk.add1 {z n y m:Nat}(h:SzOk z n)(k:SzOk y m):SzOk (min (z+1+y) cap) (n+(1+m)):=by unfold SzOk at *;omega
theorem SzOk.one {z n:Nat}(h:SzOk z n):SzOk (1+z) (1+n):=by unfold SzOk at *;omega
def Tgt (E:Int->Prop)(lo hi m:Nat)(z:Int):Prop:=((lo:Int)<=z/\z<(hi:Int))\/z=(m:Int)\/E z
def OkI (E:Int->Prop)(lo hi m:Nat)(i:Ins):Prop:=(i.op=1/\i.y=0\/i.op=4/\i.s=noSet/\i.y=0\/i.op=2/\i.s=noSet/\Tgt E lo hi m i.y)/\Tgt E lo hi m i.x
def Ops (E:Int->Prop)(c:Cd):Prop:=∀ a m,∀ i ∈ c.put a m,OkI E a (a+c.n) m i
theorem Tgt.mono {E E':Int->Prop}{lo hi m lo' hi' m':Nat}{z:Int}(h:Tgt E lo hi m z)(h1:lo'<=lo)(h2:hi<=hi')(h3:m=m'\/lo'<=m/\m<hi'\/E' (m:Int))(h4:∀ z,E z->E' z):Tgt E' lo' hi' m' z:=by
 rcases h with h|h|h
 ·exact .inl ⟨by omega,by omega⟩
 ·subst h
  rcases h3 with h3|h3|h3
  ·exact .inr (.inl (by omega))
  ·exact .inl ⟨by omega,by omega⟩
  ·exact .inr (.inr h3)
 ·exact .inr (.inr (h4 z h))
theorem OkI.mono {E E':Int->Prop}{lo hi m lo' hi' m':Nat}{i:Ins}(h:OkI E lo hi m i)(h1:lo'<=lo)(h2:hi<=hi')(h3:m=m'\/lo'<=m/\m<hi'\/E' (m:Int))(h4:∀ z,E z->E' z):OkI E' lo' hi' m' i :=
 ⟨by
   rcases h.1 with h|h|⟨a,b,c⟩
   ·exact .inl h
   ·exact .inr (.inl h)
   ·exact .inr (.inr ⟨a,b,c.mono h1 h2 h3 h4⟩),h.2.mono h1 h2 h3 h4⟩
theorem Zlv (E:Int->Prop):∀ (l:List Cd)(a m:Nat),(∀ c ∈ l,Ops E c)->∀ i ∈ sqP l a m,OkI E a (a+max 1 (ZbJ l)) m i
 | [],a,m,_,i,hi=>by
  simp only [sqP,List.mem_singleton] at hi
  subst hi
  exact⟨.inr (.inl ⟨rfl,rfl,rfl⟩),.inr (.inl rfl)⟩
 | [c],a,m,h,i,hi=>by
  have p:=c.pos
  exact ((h c (by simp)) a m i hi).mono (Nat.le_refl _) (by simp only [ZbJ];omega) (.inl rfl) (fun _ h=>h)
 | c::d::r,a,m,h,i,hi=>by
  have p:=@Zf1 d r
  have e:ZbJ (c::d::r)=c.n+ZbJ (d::r):=rfl
  rw [e]
  simp only [sqP,List.mem_append] at hi
  rcases hi with hi|hi
  ·exact ((h c (by simp)) a _ i hi).mono (Nat.le_refl _) (by omega) (.inr (.inl ⟨by omega,by omega⟩)) (fun _ h=>h)
  ·exact (Zlv E (d::r) _ m (fun c' hc=>h c' (List.mem_cons_of_mem _ hc)) i hi).mono (by omega) (by omega) (.inl rfl) (fun _ h=>h)
theorem ch_ops (E:Int->Prop):∀ (l:List Cd)(a m:Nat),(∀ c ∈ l,Ops E c)->∀ i ∈ chP l a m,OkI E a (a+chN l) m i
 | [],a,m,_,i,hi=>by
  simp only [chP,List.mem_singleton] at hi
  subst hi
  exact⟨.inl ⟨rfl,rfl⟩,.inr (.inl rfl)⟩
 | [c],a,m,h,i,hi=>(h c (by simp)) a m i hi
 | c::d::r,a,m,h,i,hi=>by
  have p:=c.pos
  have p2:=Zlt (d::r)
  have e:chN (c::d::r)=1+c.n+chN (d::r):=rfl
  rw [e]
  simp only [chP,List.mem_cons,List.mem_append] at hi
  rcases hi with hi|hi|hi
  ·subst hi
   exact⟨.inr (.inr ⟨rfl,rfl,.inl ⟨by simp only;omega,by simp only;omega⟩⟩),.inl ⟨by simp only;omega,by simp only;omega⟩⟩
  ·exact ((h c (by simp)) _ m i hi).mono (by omega) (by omega) (.inl rfl) (fun _ h=>h)
  ·exact (ch_ops E (d::r) _ m (fun c' hc=>h c' (List.mem_cons_of_mem _ hc)) i hi).mono (by omega) (by omega) (.inl rfl) (fun _ h=>h)
theorem opt_ops {E:Int->Prop}{c:Cd}(h:Ops E c)(o:Nat)(ho:E (o:Int)):Ops E (opt c o):=fun a m i hi=>by
 have p:=c.pos
 simp only [opt,List.mem_cons] at hi ⊢
 rcases hi with hi|hi
 ·subst hi
  exact⟨.inr (.inr ⟨rfl,rfl,.inr (.inr ho)⟩),.inl ⟨by simp only;omega,by simp only;omega⟩⟩
 ·exact (h _ m i hi).mono (by omega) (by omega) (.inl rfl) (fun _ h=>h)
theorem lp_ops {E:Int->Prop}{c:Cd}(h:Ops E c):Ops E (lp c):=fun a m i hi=>by
 have p:=c.pos
 simp only [lp,List.mem_cons] at hi ⊢
 rcases hi with hi|hi
 ·subst hi
  exact⟨.inr (.inr ⟨rfl,rfl,.inr (.inl rfl)⟩),.inl ⟨by simp only;omega,by simp only;omega⟩⟩
 ·exact (h _ a i hi).mono (by omega) (by omega) (.inr (.inl ⟨by omega,by omega⟩)) (fun _ h=>h)
theorem Ops.mono {E E':Int->Prop}{c:Cd}(h:Ops E c)(hE:∀ z,E z->E' z):Ops E' c:=fun a m i hi=>(h a m i hi).mono (Nat.le_refl _) (Nat.le_refl _) (.inl rfl) hE
theorem rp_ops {c:Cd}(h:Ops (fun _=>False) c)(mn:Nat)(mx:Int):Ops (fun _=>False) (rp c mn mx):=fun a m i hi=>by
 have h1:∀ d ∈ rpL c mn mx m,Ops (fun z=>z=(m:Int)) d:=fun d hd=>by
  have hc:Ops (fun z=>z=(m:Int)) c:=h.mono (fun _ h=>h.elim)
  unfold rpL at hd
  rcases List.mem_append.1 hd with hd|hd
  ·rw [(List.mem_replicate.1 hd).2];exact hc
  ·split at hd
   ·rw [List.mem_singleton.1 hd];exact lp_ops hc
   ·rw [(List.mem_replicate.1 hd).2];exact opt_ops hc m rfl
 have h2:=Zlv _ _ a m h1 i hi
 have e:(rp c mn mx).n=max 1 (ZbJ (rpL c mn mx m)):=by simp only [rp,ZdV]
 rw [e]
 refine⟨?_,?_⟩
 ·rcases h2.1 with h|h|⟨x,y,z⟩
  ·exact .inl h
  ·exact .inr (.inl h)
  ·refine .inr (.inr ⟨x,y,?_⟩)
   rcases z with z|z|z
   ·exact .inl z
   ·exact .inr (.inl z)
   ·exact .inr (.inl z)
 ·rcases h2.2 with z|z|z
  ·exact .inl z
  ·exact .inr (.inl z)
  ·exact .inr (.inl z)
def shI (d:Nat)(i:Ins):Ins:=⟨i.op,i.s,if i.op=3 then i.x else i.x+(d:Int),if i.op=2 then i.y+(d:Int) else i.y⟩
def Shf (d:Nat)(c c':Cd):Prop:=c'.n=c.n/\∀ a m,c'.put (a+d) (m+d)=(c.put a m).map (shI d)
def ShL (d:Nat):List Cd->List Cd->Prop
 | [],[]=>True
 | c::r,c'::r'=>Shf d c c'/\ShL d r r'
 | _,_=>False
theorem ShL.append {d:Nat}:∀ {p p' q q':List Cd},ShL d p p'->ShL d q q'->ShL d (p++q) (p'++q')
 | [],[],_,_,_,h=>h
 | c::r,c'::r',_,_,h,k=>⟨h.1,ShL.append h.2 k⟩
theorem ShL.rep {d:Nat}{c c':Cd}(h:Shf d c c'):∀ k,ShL d (List.replicate k c) (List.replicate k c')
 | 0=>trivial
 | k+1=>⟨h,ShL.rep h k⟩
theorem ShL.all {d:Nat}:∀ {l:List Cd},(∀ c ∈ l,Shf d c c)->ShL d l l
 | [],_=>trivial
 | c::r,h=>⟨h c (by simp),ShL.all (fun x hx=>h x (List.mem_cons_of_mem _ hx))⟩
theorem sq_sh {d:Nat}:∀ {l l':List Cd},ShL d l l'->∀ a m,sqP l' (a+d) (m+d)=(sqP l a m).map (shI d)
 | [],[],_,a,m=>by simp [sqP,shI]
 | [c],[c'],h,a,m=>h.1.2 a m
 | c::e::r,c'::e'::r',h,a,m=>by
  have h2:=sq_sh (l:=e::r) (l':=e'::r') h.2 (a+c.n) m
  have h3:=h.1.2 a (a+c.n)
  have e1:a+d+c'.n=a+c.n+d:=by rw [h.1.1];omega
  simp only [sqP,List.map_append,e1,h2,h3]
theorem ch_sh {d:Nat}:∀ {l l':List Cd},ShL d l l'->∀ a m,chP l' (a+d) (m+d)=(chP l a m).map (shI d)
 | [],[],_,a,m=>by simp [chP,shI]
 | [c],[c'],h,a,m=>h.1.2 a m
 | c::e::r,c'::e'::r',h,a,m=>by
  have h2:=ch_sh (l:=e::r) (l':=e'::r') h.2 (a+1+c.n) m
  have h3:=h.1.2 (a+1) m
  have e1:a+d+1+c'.n=a+1+c.n+d:=by rw [h.1.1];omega
  have e2:a+d+1=a+1+d:=by omega
  simp only [chP,List.map_cons,List.map_append,e1,h2,e2,h3,shI]
  simp
  exact⟨by omega,by rw [show a+1+d+c'.n=a+1+c.n+d by omega];exact h2⟩
theorem opt_sh {d:Nat}{c:Cd}(h:Shf d c c)(o:Nat):Shf d (opt c o) (opt c (o+d)):=⟨rfl,fun a m=>by
 have h3:=h.2 (a+1) m
 have e2:a+d+1=a+1+d:=by omega
 simp only [opt,e2,h3,List.map_cons,shI]
 simp⟩
theorem lp_sh {d:Nat}{c:Cd}(h:Shf d c c):Shf d (lp c) (lp c):=⟨rfl,fun a m=>by
 have h3:=h.2 (a+1) a
 have e2:a+d+1=a+1+d:=by omega
 simp only [lp,e2,h3,List.map_cons,shI]
 simp⟩
theorem rp_sh {d:Nat}{c:Cd}(h:Shf d c c)(mn:Nat)(mx:Int):Shf d (rp c mn mx) (rp c mn mx):=⟨rfl,fun a m=>by
 refine sq_sh ?_ a m
 unfold rpL
 refine (ShL.rep h mn).append ?_
 split
 ·exact⟨lp_sh h,trivial⟩
 ·exact ShL.rep (opt_sh h m) _⟩
def Goes (S:Nat->Prop)(i:Ins):Prop:=S i.x.toNat/\(i.op=2->S i.y.toNat)
def Rch (c:Cd):Prop:=∀ a m (S:Nat->Prop),S a->(∀ k i,(c.put a m)[k]?=some i->S (a+k)->Goes S i)->(∀ k,k<c.n->S (a+k))/\S m
theorem Zlw:∀ (l:List Cd),(∀ c ∈ l,Rch c)->∀ a m (S:Nat->Prop),S a->(∀ k i,(sqP l a m)[k]?=some i->S (a+k)->Goes S i)->(∀ k,k<max 1 (ZbJ l)->S (a+k))/\S m
 | [],_,a,m,S,h0,h=>by
  have:=h 0 _ rfl h0
  refine⟨fun k hk=>?_,by simpa using this.1⟩
  simp only [ZbJ] at hk
  obtain rfl:k=0:=by omega
  exact h0
 | [c],hl,a,m,S,h0,h=>by
  have:=hl c (by simp) a m S h0 h
  have p:=c.pos
  refine⟨fun k hk=>this.1 k (by simp only [ZbJ] at hk;omega),this.2⟩
 | c::d::r,hl,a,m,S,h0,h=>by
  have p:=c.pos
  have h1:=hl c (by simp) a (a+c.n) S h0 (fun k i hi hS=>h k i (by
   simp only [sqP]
   rw [List.getElem?_append_left (by rw [c.len];have:=(List.getElem?_eq_some_iff.1 hi).1;rwa [c.len] at this)]
   exact hi) hS)
  have h2:=Zlw (d::r) (fun x hx=>hl x (List.mem_cons_of_mem _ hx)) (a+c.n) m S h1.2 (fun k i hi hS=>h (c.n+k) i (by
   simp only [sqP]
   rw [List.getElem?_append_right (by rw [c.len];omega),c.len,Nat.add_sub_cancel_left]
   exact hi) (by rwa [<- Nat.add_assoc]))
  refine⟨fun k hk=>?_,h2.2⟩
  rcases Nat.lt_or_ge k c.n with hk1|hk1
  ·exact h1.1 k hk1
  ·have e:ZbJ (c::d::r)=c.n+ZbJ (d::r):=rfl
   have:=h2.1 (k - c.n) (by rw [e] at hk;have:=@Zf1 d r;omega)
   rwa [show a+c.n+(k - c.n)=a+k by omega] at this
theorem ch_rch:∀ (l:List Cd),(∀ c ∈ l,Rch c)->∀ a m (S:Nat->Prop),S a->(∀ k i,(chP l a m)[k]?=some i->S (a+k)->Goes S i)->(∀ k,k<chN l->S (a+k))/\S m
 | [],_,a,m,S,h0,h=>by
  have:=h 0 _ rfl h0
  refine⟨fun k hk=>?_,by simpa using this.1⟩
  simp only [chN] at hk
  obtain rfl:k=0:=by omega
  exact h0
 | [c],hl,a,m,S,h0,h=>hl c (by simp) a m S h0 h
 | c::d::r,hl,a,m,S,h0,h=>by
  have p:=c.pos
  have g:=h 0 ⟨2,noSet,((a+1:Nat):Int),((a+1+c.n:Nat):Int)⟩ rfl h0
  have g1:S (a+1):=by simpa using g.1
  have g2:S (a+1+c.n):=by
   have:=g.2 rfl
   simp only at this
   rwa [show ((a+1+c.n:Nat):Int).toNat=a+1+c.n by omega] at this
  have h1:=hl c (by simp) (a+1) m S g1 (fun k i hi hS=>h (1+k) i (by
   simp only [chP]
   rw [Nat.add_comm 1 k,List.getElem?_cons_succ,List.getElem?_append_left (by rw [c.len];have:=(List.getElem?_eq_some_iff.1 hi).1;rwa [c.len] at this)]
   exact hi) (by rwa [<- Nat.add_assoc]))
  have h2:=ch_rch (d::r) (fun x hx=>hl x (List.mem_cons_of_mem _ hx)) (a+1+c.n) m S g2 (fun k i hi hS=>h (1+c.n+k) i (by
   simp only [chP]
   rw [show 1+c.n+k=c.n+k+1 by omega,List.getElem?_cons_succ,List.getElem?_append_right (by rw [c.len];omega),c.len,Nat.add_sub_cancel_left]
   exact hi) (by rwa [show a+(1+c.n+k)=a+1+c.n+k by omega]))
  refine⟨fun k hk=>?_,h1.2⟩
  have e:chN (c::d::r)=1+c.n+chN (d::r):=rfl
  rcases Nat.lt_or_ge k 1 with hk0|hk0
  ·obtain rfl:k=0:=by omega
   exact h0
  ·rcases Nat.lt_or_ge k (1+c.n) with hk1|hk1
   ·have:=h1.1 (k - 1) (by omega)
    rwa [show a+1+(k - 1)=a+k by omega] at this
   ·have:=h2.1 (k - (1+c.n)) (by omega)
    rwa [show a+1+c.n+(k - (1+c.n))=a+k by omega] at this
theorem opt_rch {c:Cd}(h:Rch c)(o:Nat):Rch (opt c o):=fun a m S h0 hh=>by
 have g:=hh 0 ⟨2,noSet,((a+1:Nat):Int),(o:Int)⟩ rfl h0
 have g1:S (a+1):=by simpa using g.1
 have h1:=h (a+1) m S g1 (fun k i hi hS=>hh (k+1) i (by simpa [opt] using hi) (by rwa [show a+(k+1)=a+1+k by omega]))
 refine⟨fun k hk=>?_,h1.2⟩
 simp only [opt] at hk
 rcases Nat.eq_zero_or_pos k with rfl|hk0
 ·exact h0
 ·have:=h1.1 (k - 1) (by omega)
  rwa [show a+1+(k - 1)=a+k by omega] at this
theorem lp_rch {c:Cd}(h:Rch c):Rch (lp c):=fun a m S h0 hh=>by
 have g:=hh 0 ⟨2,noSet,((a+1:Nat):Int),(m:Int)⟩ rfl h0
 have g1:S (a+1):=by simpa using g.1
 have g2:S m:=by simpa using g.2 rfl
 have h1:=h (a+1) a S g1 (fun k i hi hS=>hh (k+1) i (by simpa [lp] using hi) (by rwa [show a+(k+1)=a+1+k by omega]))
 refine⟨fun k hk=>?_,g2⟩
 simp only [lp] at hk
 rcases Nat.eq_zero_or_pos k with rfl|hk0
 ·exact h0
 ·have:=h1.1 (k - 1) (by omega)
  rwa [show a+1+(k - 1)=a+k by omega] at this
theorem rp_rch {c:Cd}(h:Rch c)(mn:Nat)(mx:Int):Rch (rp c mn mx):=fun a m S h0 hh=>by
 have h1:∀ d ∈ rpL c mn mx m,Rch d:=fun d hd=>by
  unfold rpL at hd
  rcases List.mem_append.1 hd with hd|hd
  ·rw [(List.mem_replicate.1 hd).2];exact h
  ·split at hd
   ·rw [List.mem_singleton.1 hd];exact lp_rch h
   ·rw [(List.mem_replicate.1 hd).2];exact opt_rch h m
 have h2:=Zlw _ h1 a m S h0 hh
 refine⟨fun k hk=>h2.1 k ?_,h2.2⟩
 rw [ZdV]
 simpa only [rp,ZdV] using hk
structure Nice (c:Cd):Prop where
 ops:Ops (fun _=>False) c
 sh:∀ d,Shf d c c
 rch:Rch c
theorem sgl_nice (op:Int)(s:S4)(h:op=1\/op=4/\s=noSet):Nice (sgl op s):=by
 refine⟨fun a m i hi=>?_,fun d=>⟨rfl,fun a m=>?_⟩,fun a m S h0 hh=>?_⟩
 ·simp only [sgl,List.mem_singleton] at hi
  subst hi
  rcases h with h|⟨h,h'⟩
  ·exact⟨.inl ⟨h,rfl⟩,.inr (.inl rfl)⟩
  ·exact⟨.inr (.inl ⟨h,h',rfl⟩),.inr (.inl rfl)⟩
 ·simp only [sgl,List.map_cons,List.map_nil,shI]
  rw [if_neg (by omega),if_neg (by omega)]
  simp
 ·have g:=hh 0 _ rfl h0
  refine⟨fun k hk=>?_,by simpa using g.1⟩
  simp only [sgl] at hk
  obtain rfl:k=0:=by omega
  exact h0
theorem Zjm (n:Nd)(l:List Cd)(h:Zdv n l.length)(hl:∀ c ∈ l,Nice c):Nice (cdN n l):=by
 unfold cdN
 split
 ·exact sgl_nice 1 _ (.inl rfl)
 ·split
  ·rename_i h4
   obtain⟨h1,_⟩:=h.2.1 h4
   cases l with
   | nil=>simp at h1
   | cons c r =>
    have hc:=hl c (by simp)
    exact⟨rp_ops hc.ops _ _,fun d=>rp_sh (hc.sh d) _ _,rp_rch hc.rch _ _⟩
  ·split
   ·exact⟨fun a m=>ch_ops _ l a m (fun c hc=>(hl c hc).ops),fun d=>⟨rfl,fun a m=>ch_sh (ShL.all (fun c hc=>(hl c hc).sh d)) a m⟩,fun a m S h0 hh=>ch_rch l (fun c hc=>(hl c hc).rch) a m S h0 hh⟩
   ·exact⟨fun a m=>Zlv _ l a m (fun c hc=>(hl c hc).ops),fun d=>⟨rfl,fun a m=>sq_sh (ShL.all (fun c hc=>(hl c hc).sh d)) a m⟩,fun a m S h0 hh=>Zlw l (fun c hc=>(hl c hc).rch) a m S h0 hh⟩
theorem Zia:∀ f:Fo,f.fit->∀ c ∈ f.cds,Nice c
 | .nil,_,c,h=>(List.not_mem_nil h).elim
 | .cons n k r,⟨h1,h2,h3⟩,c,h=>by
  simp only [Fo.cds,List.mem_cons] at h
  rcases h with rfl|h
  ·exact Zjm n _ (by rw [Fo.cds_len];exact h1) (Zia k h2)
  ·exact Zia r h3 c h
theorem Zjn (t:Tr)(h:ZcF t):Nice (cdT t):=Zjm t.1 _ (by rw [Fo.cds_len];exact h.1) (Zia t.2 h.2)
end
section
open Go.RowKit
def Zcf (i:Ins):Array Value:=#[.int .i64 i.op,.int .u64 i.s.a,.int .u64 i.s.b,.int .u64 i.s.c,.int .u64 i.s.d,.int .i64 i.x,.int .i64 i.y]
def ZdB (i:Ins):Value:=.agg (Zcf i)
def ins0:Ins:=⟨0,noSet,0,0⟩
def ZeG (L:List Ins):List Value:=L.flatMap (fun i=>(Zcf i).toList)
theorem ZgT (L M:List Ins):ZeG (L++M)=ZeG L++ZeG M:=by simp [ZeG]
theorem Zjo:∀ (L:List Ins)(k:Nat)(i:Ins),L[k]?=some i->∀ j u,(Zcf i)[j]?=some u->(ZeG L)[k * 7+j]?=some u
 | [],k,i,h,_,_,_=>by simp at h
 | x::r,0,i,h,j,u,hj=>by
  simp only [List.getElem?_cons_zero,Option.some.injEq] at h
  subst h
  have hj':j<7:=by have:=(Array.getElem?_eq_some_iff.1 hj).1;simpa [Zcf] using this
  show (ZeG (x::r))[0 * 7+j]?=_
  simp only [ZeG,List.flatMap_cons]
  rw [List.getElem?_append_left (by simp [Zcf];omega)]
  simpa using hj
 | x::r,k+1,i,h,j,u,hj=>by
  have:=Zjo r k i (by simpa using h) j u hj
  simp only [ZeG,List.flatMap_cons] at this ⊢
  rw [List.getElem?_append_right (by simp [Zcf];omega)]
  simp only [Zcf,List.length_cons,List.length_nil]
  rw [show (k+1) * 7+j - (0+1+1+1+1+1+1+1)=k * 7+j by omega]
  exact this
theorem insA_one (i:Ins):∀ u ∈ (Zcf i).toList,u.oneCell'=true:=fun u hu=>by
 have h1:∀ k n,(Value.int k n).oneCell'=true:=fun _ _=>rfl
 simp only [Zcf,List.mem_cons,List.not_mem_nil,or_false] at hu
 rcases hu with rfl|rfl|rfl|rfl|rfl|rfl|rfl <;> exact h1 _ _
theorem insA_all (i:Ins):(Zcf i).all (·.oneCell')=true:=by simp [Zcf,Value.oneCell']
theorem sizeI:(Tryz.prog.info? 182).map (·.size)=some 7:=by kernel_rfl
theorem infoI:∃ i,Tryz.prog.info? 182=some i/\i.zero=some (ZdB ins0)/\i.size=7/\i.bytes=56:=by
 have h:(Tryz.prog.info? 182).map (fun i=>(i.zero,i.size,i.bytes))=some (some (ZdB ins0),7,56):=by kernel_rfl
 cases hi:Tryz.prog.info? 182 with
 | none=>rw [hi] at h;cases h
 | some i =>
  rw [hi] at h
  simp only [Option.map_some,Option.some.injEq,Prod.mk.injEq] at h
  exact⟨i,rfl,h.1,h.2.1,h.2.2⟩
theorem Zlx (i:Ins)(w:World):(Instr.buildSlice 72 1 #[(0,ZdB i)]).run Tryz.prog w=.ok (.slice (some ⟨w.heap.size,0,none⟩) 1 1) (w.alloc (.cells (Zcf i) 182)):=by kernel_rfl
theorem run_boxI (dst:Option Nat)(ty:TypeId)(pos:String)(after:Array Edge)(ev:Operand->Value)(x:Operand)(i:Ins)(hx:ev x=ZdB i)(w:World):(execOp ev ⟨dst,.box 182 x,ty,pos,after,none⟩).run Tryz.prog w=.ok (.value (.pointer (some ⟨w.heap.size,0,none⟩))) (w.alloc (.cells (Zcf i) 182)):=by
 unfold execOp
 simp only [hx]
 kernel_rfl
theorem Zkm (dst:Option Nat)(ty:TypeId)(pos:String)(after:Array Edge)(ev:Operand->Value)(w:World):(execOp ev ⟨dst,.alloc 182,ty,pos,after,none⟩).run Tryz.prog w=.ok (.value (.pointer (some ⟨w.heap.size,0,none⟩))) (w.alloc (.cells (Zcf ins0) 182)):=by
 unfold execOp
 kernel_rfl
theorem loadI {w:World}{g:Nat}{i:Ins}(h:w.heap[g]?=some (.cells (Zcf i) 182 (0,0))):(loadVar 182 ⟨g,0,none⟩).run Tryz.prog w=.ok (ZdB i) w :=
 run_loadVar_row w g 182 182 _ (0,0) _ h Tryz.underlying182 rfl sizeI
theorem loadIc {w:World}{b o:Nat}{i:Ins}(h:∀ j v,(Zcf i)[j]?=some v->w.cell? ⟨b,o+j,none⟩=some v):(loadVar 182 ⟨b,o,none⟩).run Tryz.prog w=.ok (ZdB i) w:=by
 have h0:=h 0 _ rfl
 have h1:=h 1 _ rfl
 have h2:=h 2 _ rfl
 have h3:=h 3 _ rfl
 have h4:=h 4 _ rfl
 have h5:=h 5 _ rfl
 have h6:=h 6 _ rfl
 have hz:∀ w,(sizeOf 182).run Tryz.prog w=.ok 7 w:=fun w=>by kernel_rfl
 have ha:∀ w,(isAgg 182).run Tryz.prog w=.ok true w:=fun w=>by kernel_rfl
 simp only [Nat.add_zero] at h0
 simp [loadVar,hz,ha,loadCells,go_sem,h0,h1,h2,h3,h4,h5,h6,Zav]
 rfl
def RI (w:World)(v:Value)(L:List Ins):Prop:=w.ownsRow 0 182 7 v L.length (ZeG L)
theorem RI.nil (w:World):RI w (.slice none 0 0) []:=⟨rfl,.inl ⟨rfl,rfl⟩⟩
theorem RI.lt {w:World}{v:Value}{L:List Ins}(h:RI w v L){k:Nat}(hk:v.ownBlock=some k):k<w.heap.size:=(World.ownsRow.lt h k hk).2
theorem RI.val {w:World}{v:Value}{L:List Ins}(h:RI w v L):∃ a c,v=.slice a L.length c:=by
 rcases h.2 with⟨rfl,h0⟩|⟨g,cap,cur,rfl,_⟩
 ·exact⟨none,0,by rw [h0]⟩
 ·exact⟨_,cap,rfl⟩
theorem ZbL {w w':World}{base n:Nat}{e:TypeId}{size:Nat}{v:Value}{xs:List Value}(h:w.ownsRow base e size v n xs)(hb:∀ k,v.ownBlock=some k->w'.heap[k]?=w.heap[k]?):w'.ownsRow base e size v n xs:=by
 refine⟨h.1,?_⟩
 rcases h.2 with h1|⟨g,cap,cur,rfl,h2,h3,h4⟩
 ·exact .inl h1
 ·exact .inr ⟨g,cap,cur,rfl,h2,(hb g rfl).trans h3,h4⟩
theorem RI.kept {w w':World}{v:Value}{L:List Ins}(h:RI w v L)(hb:∀ k,k<w.heap.size->v.ownBlock=some k->w'.heap[k]?=w.heap[k]?):RI w' v L:=ZbL h (fun k hk=>hb k (h.lt hk) hk)
theorem RI.below {w w':World}{v:Value}{L:List Ins}(h:RI w v L)(hb:Below w.heap.size w w'):RI w' v L:=h.kept (fun k hk _=>hb.block k hk)
theorem Zjp (w:World)(ty:TypeId)(v:Value)(L:List Ins)(i:Ins)(h:RI w v L)(hl:L.length<=1000000)(b:Nat)(hb:w.heap[b]?=some (.cells (Zcf i) 182 (0,0))) :
  ∃ v' w',(Builtin.append_ #[72,72] ty #[v,.slice (some ⟨b,0,none⟩) 1 1]).run Tryz.prog w=.ok v' w'/\RI w' v' (L++[i])/\w.grownBy w' v.ownBlock/\(v'.ownBlock=v.ownBlock\/v'.ownBlock=some w.heap.size):=by
 obtain⟨i0,hi,hz0,hz1,hz2⟩:=infoI
 obtain⟨v',w',h1,h2,h3,_,h5⟩:=run_append_own_at (P:=Tryz.prog) w 0 72 ty 182 i0 (ZdB ins0) 7 56 Tryz.underlying72 hi hz0 hz1 hz2 rfl (by decide) v L.length (ZeG L) h ⟨b,0,none⟩ 1 1 (Zcf i).toList rfl (fun j u hj=>by
  rw [Zav,Nat.zero_add,cell_of_row w b j _ 182 (0,0) hb]
  simpa using hj) (insA_one i) (by unfold maxLen;omega) (by omega) (Nat.zero_le _)
 refine⟨v',w',h1,?_,h3,h5⟩
 unfold RI
 rw [ZgT,List.length_append]
 simpa [ZeG] using h2
section
variable {S:Nat->Prop}{w0 w w':World}{L:List Ent}{ops:Array Oper}{rest:List Oper}{a:Act}{Q:Exit->Act->World->Prop}{x y:Operand}{ty ty2:TypeId}{pos pos2:String}{after after2:Array Edge}
theorem at_ins {d1 d2:Nat}{s x:Operand}(h:wpList Tryz.prog ops Q (⟨some d1,.buildSlice 72 1 #[(0,x)],ty,pos,after,none⟩::⟨some d2,.call { callee:=.builtin .append,args:=#[s,.tmp d1],argTypes:=#[72,72] },ty2,pos2,after2,none⟩::rest) a w) :
  wpList Tryz.prog ops Q (⟨some d1,.buildSlice 72 1 #[(0,x)],ty,pos,after,none⟩::⟨some d2,.call { callee:=.builtin .append,args:=#[s,.tmp d1],argTypes:=#[72,72] },ty2,pos2,after2,none⟩::rest) a w:=h
theorem wl_ins {d1 d2:Nat}{s:Operand}{v:Value}{I:List Ins}{i:Ins}(R:RI w v I)(hl:I.length<=1000000)(hs:∀ u,(a.put (some d1) u).eval s=v)(ht:∀ u,(a.put (some d1) u).eval (.tmp d1)=u)(hx:a.eval x=ZdB i)
  (k:∀ u v2 w2,RI w2 v2 (I++[i])->But (fun k=>v.ownBlock=some k) w w2->(v2.ownBlock=v.ownBlock\/v2.ownBlock=some (w.heap.size+1))->wpList Tryz.prog ops Q rest ((a.put (some d1) u).put (some d2) v2) w2) :
  wpList Tryz.prog ops Q (⟨some d1,.buildSlice 72 1 #[(0,x)],ty,pos,after,none⟩::⟨some d2,.call { callee:=.builtin .append,args:=#[s,.tmp d1],argTypes:=#[72,72] },ty2,pos2,after2,none⟩::rest) a w:=by
 refine wpList_plain rfl fun K hK=>?_
 unfold Oper.wp execOp
 simp only [List.map_toArray,List.map_cons,List.map_nil,hx,Sem.run_bind,Zlx,Result.andThen_ok,Sem.run_pure]
 refine hK _ _ ?_
 obtain⟨v',w2,h1,h2,h3,h4⟩:=Zjp (w.alloc (.cells (Zcf i) 182)) ty2 v I i (R.below ((Below.refl _ w).alloc (Nat.le_refl _) _)) hl w.heap.size (heap_alloc_new w _)
 refine wpList_plain rfl fun K2 hK2=>?_
 unfold Oper.wp execOp
 simp only [resolve,invoke,builtin,List.map_toArray,List.map_cons,List.map_nil,hs,ht,Sem.run_bind,Sem.run_pure,Result.andThen_ok,h1]
 refine hK2 _ _ (k _ v' w2 h2 ((But.refl _ w).alloc _ |>.grown h3 (fun k e _=>e)) ?_)
 rcases h4 with h4|h4
 ·exact .inl h4
 ·exact .inr (by simpa using h4)
end
def PutE (w:World)(v:Value)(L:List Ins)(e:Ending)(w':World):Prop :=
 ∃ v',e=.returned v'/\RI w' v' L/\But (fun k=>v.ownBlock=some k) w w'/\(∀ k,v'.ownBlock=some k->v.ownBlock=some k\/w.heap.size<=k)
def Kp (R:Nat->Prop)(w W:World):Prop:=w.heap.size<=W.heap.size/\∀ k,k<w.heap.size->¬ R k->W.heap[k]?=w.heap[k]?
theorem Kp.refl (R:Nat->Prop)(w:World):Kp R w w:=⟨Nat.le_refl _,fun _ _ _=>rfl⟩
theorem Kp.trans {R:Nat->Prop}{a b c:World}(h:Kp R a b)(k:Kp R b c):Kp R a c:=⟨Nat.le_trans h.1 k.1,fun i hi hn=>(k.2 i (by have:=h.1;omega) hn).trans (h.2 i hi hn)⟩
theorem Kp.below {R:Nat->Prop}{a b c:World}(h:Kp R a b)(k:Below b.heap.size b c):Kp R a c:=⟨Nat.le_trans h.1 k.size,fun i hi hn=>(k.block i (by have:=h.1;omega)).trans (h.2 i hi hn)⟩
theorem Kp.but {R T:Nat->Prop}{a b c:World}(h:Kp R a b)(k:But T b c)(hT:∀ i,T i->R i\/a.heap.size<=i):Kp R a c:=⟨Nat.le_trans h.1 k.size,fun i hi hn=>(k.block i (by have:=h.1;omega) (fun t=>by rcases hT i t with h|h;exact hn h;omega)).trans (h.2 i hi hn)⟩
def Clo (n:Nat):Prop:=∀ args w,(callFunc n args).run Tryz.prog w=.ok (.enter n args) w
def PutOk (R:Nat->Prop)(w:World)(f:Value)(c:Cd):Prop :=
 ∃ n caps,f=.func (.func n) #[] caps/\Clo n/\∀ W v L m,Kp R w W->RI W v L->(∀ k,v.ownBlock=some k->R k\/w.heap.size<=k)->L.length+c.n<=100000->m<=100000 ->
  Calls Tryz.prog n (#[v,.int .i64 ((m:Nat):Int)]++caps) W (PutE W v (L++c.put L.length m))
theorem PutOk.mono {R R':Nat->Prop}{w w':World}{f:Value}{c:Cd}(h:PutOk R w f c)(hk:Kp R w w')(hR:∀ k,R' k->R k\/w.heap.size<=k):PutOk R' w' f c:=by
 obtain⟨n,caps,e,hc,H⟩:=h
 refine⟨n,caps,e,hc,fun W v L m hK hr hv hl hm=>H W v L m ⟨Nat.le_trans hk.1 hK.1,fun i hi hn=>?_⟩ hr (fun k hk'=>?_) hl hm⟩
 ·exact (hK.2 i (by have:=hk.1;omega) (fun h=>by rcases hR i h with h|h;exact hn h;omega)).trans (hk.2 i hi hn)
 ·rcases hv k hk' with h|h
  ·exact hR k h
  ·exact .inr (Nat.le_trans hk.1 h)
theorem PutOk.below {R:Nat->Prop}{w w':World}{f:Value}{c:Cd}(h:PutOk R w f c)(hb:Below w.heap.size w w'):PutOk R w' f c:=h.mono ((Kp.refl R w).below hb) (fun _ h=>.inl h)
def cdA (z:Nat)(f:Value):Array Value:=#[.int .i64 (z:Int),f]
def cdV (z:Nat)(f:Value):Value:=.agg (cdA z f)
structure CdOk (b:Nat) (R:Nat->Prop) (w:World) (z:Nat) (f:Value) (c:Cd):Prop where
 sz:SzOk z c.n
 le:z<=b
 put:PutOk R w f c
theorem CdOk.mono {b:Nat}{R R':Nat->Prop}{w w':World}{z:Nat}{f:Value}{c:Cd}(h:CdOk b R w z f c)(hk:Kp R w w')(hR:∀ k,R' k->R k\/w.heap.size<=k):CdOk b R' w' z f c:=⟨h.sz,h.le,h.put.mono hk hR⟩
theorem CdOk.below {b:Nat}{R:Nat->Prop}{w w':World}{z:Nat}{f:Value}{c:Cd}(h:CdOk b R w z f c)(hb:Below w.heap.size w w'):CdOk b R w' z f c:=⟨h.sz,h.le,h.put.below hb⟩
def Cs (b:Nat)(R:Nat->Prop)(w:World):List Cd->List Value->Prop
 | [],xs=>xs=[]
 | c::r,xs=>∃ z f ys,xs=.int .i64 ((z:Nat):Int)::f::ys/\CdOk b R w z f c/\Cs b R w r ys
theorem Cs.mono {b:Nat}{R R':Nat->Prop}{w w':World}(hk:Kp R w w')(hR:∀ k,R' k->R k\/w.heap.size<=k):∀ {cs:List Cd}{xs:List Value},Cs b R w cs xs->Cs b R' w' cs xs
 | [],_,h=>h
 | _::_,_,⟨z,f,ys,e,h1,h2⟩=>⟨z,f,ys,e,h1.mono hk hR,Cs.mono hk hR h2⟩
theorem Cs.at {b:Nat}{R:Nat->Prop}{w:World}:∀ {cs:List Cd}{xs:List Value},Cs b R w cs xs->∀ k c,cs[k]?=some c->∃ z f,CdOk b R w z f c/\xs[k * 2]?=some (.int .i64 ((z:Nat):Int))/\xs[k * 2+1]?=some f
 | [],_,_,k,c,h=>by simp at h
 | d::r,_,⟨z,f,ys,e,h1,h2⟩,0,c,h=>by
  simp only [List.getElem?_cons_zero,Option.some.injEq] at h
  subst h
  exact⟨z,f,h1,by rw [e];rfl,by rw [e];rfl⟩
 | d::r,_,⟨z,f,ys,e,h1,h2⟩,k+1,c,h=>by
  obtain⟨z',f',h3,h4,h5⟩:=Cs.at h2 k c (by simpa using h)
  refine⟨z',f',h3,?_,?_⟩
  ·rw [e,show (k+1) * 2=k * 2+1+1 by omega];simpa using h4
  ·rw [e,show (k+1) * 2+1=k * 2+1+1+1 by omega];simpa using h5
theorem Cs.append {b:Nat}{R:Nat->Prop}{w:World}:∀ {cs ds:List Cd}{xs ys:List Value},Cs b R w cs xs->Cs b R w ds ys->Cs b R w (cs++ds) (xs++ys)
 | [],_,_,_,h,k=>by cases h;exact k
 | _::_,_,_,_,⟨z,f,zs,e,h1,h2⟩,k=>⟨z,f,zs++_,by rw [e];rfl,h1,Cs.append h2 k⟩
def CsV (b:Nat)(R:Nat->Prop)(w:World)(v:Value)(cs:List Cd):Prop:=∃ xs,w.ownsRow 0 121 2 v cs.length xs/\(∀ k,v.ownBlock=some k->¬ R k)/\Cs b R w cs xs
theorem CsV.mono {b:Nat}{R R':Nat->Prop}{w w':World}{v:Value}{cs:List Cd}(h:CsV b R w v cs)(hk:Kp R w w')(hR:∀ k,R' k->R k\/w.heap.size<=k):CsV b R' w' v cs:=by
 obtain⟨xs,o,hb,hc⟩:=h
 refine⟨xs,ZbL o (fun k e=>hk.2 k (o.lt k e).2 (hb k e)),fun k e hr=>?_,hc.mono hk hR⟩
 rcases hR k hr with h|h
 ·exact hb k e h
 ·have:=(o.lt k e).2;omega
theorem CsV.val {b:Nat}{R:Nat->Prop}{w:World}{v:Value}{cs:List Cd}(h:CsV b R w v cs):∃ a c,v=.slice a cs.length c/\cs.length<=c:=by
 obtain⟨xs,o,_⟩:=h
 rcases o.2 with⟨rfl,h0⟩|⟨g,cap,cur,rfl,_,_,h4,_⟩
 ·exact⟨none,0,by rw [h0],by omega⟩
 ·exact⟨_,cap,rfl,h4⟩
theorem CsV.at {b:Nat}{R:Nat->Prop}{w:World}{v:Value}{cs:List Cd}(h:CsV b R w v cs){k:Nat}{c:Cd}(hk:cs[k]?=some c):∃ g cp z f,v=.slice (some ⟨g,0,none⟩) cs.length cp/\cs.length<=cp/\g<w.heap.size/\¬ R g/\CdOk b R w z f c/\∀ W,Kp R w W->W.cell? ⟨g,k * 2,none⟩=some (.int .i64 ((z:Nat):Int))/\W.cell? ⟨g,k * 2+1,none⟩=some f:=by
 obtain⟨xs,o,hb,hc⟩:=h
 have hl:=(List.getElem?_eq_some_iff.1 hk).1
 obtain⟨z,f,h1,h2,h3⟩:=hc.at k c hk
 rcases o.2 with⟨_,h0⟩|⟨g,cap,cur,rfl,_,hg,h4,_⟩
 ·omega
 ·have hgl:=(Array.getElem?_eq_some_iff.1 hg).1
  refine⟨g,cap,z,f,rfl,h4,hgl,hb g rfl,h1,fun W hW=>?_⟩
  have o2:W.ownsRow 0 121 2 (.slice (some ⟨g,0,none⟩) cs.length cap) cs.length xs:=ZbL o (fun k e=>hW.2 k (o.lt k e).2 (hb k e))
  have c1:=o2.cells (g:=g) rfl _ _ h2
  have c2:=o2.cells (g:=g) rfl _ _ h3
  rw [Zav,Nat.zero_add] at c1 c2
  exact⟨c1,c2⟩
theorem sizeC:(Tryz.prog.info? 121).map (·.size)=some 2:=by kernel_rfl
theorem Zkn (dst:Option Nat)(ty:TypeId)(pos:String)(after:Array Edge)(ev:Operand->Value)(w:World):(execOp ev ⟨dst,.alloc 121,ty,pos,after,none⟩).run Tryz.prog w=.ok (.value (.pointer (some ⟨w.heap.size,0,none⟩))) (w.alloc (.cells (cdA 0 .nilFunc) 121)):=by
 unfold execOp
 kernel_rfl
theorem run_boxC (dst:Option Nat)(ty:TypeId)(pos:String)(after:Array Edge)(ev:Operand->Value)(x:Operand)(z:Nat)(f:Value)(hx:ev x=cdV z f)(w:World):(execOp ev ⟨dst,.box 121 x,ty,pos,after,none⟩).run Tryz.prog w=.ok (.value (.pointer (some ⟨w.heap.size,0,none⟩))) (w.alloc (.cells (cdA z f) 121)):=by
 unfold execOp
 simp only [hx]
 kernel_rfl
theorem ZcI {w:World}{g:Nat}{z:Nat}{f:Value}(h:w.heap[g]?=some (.cells (cdA z f) 121 (0,0))):(loadVar 121 ⟨g,0,none⟩).run Tryz.prog w=.ok (cdV z f) w :=
 run_loadVar_row w g 121 121 _ (0,0) _ h Tryz.underlying121 rfl sizeC
theorem Zjq {w:World}{b o:Nat}{z:Nat}{f:Value}(h0:w.cell? ⟨b,o,none⟩=some (.int .i64 ((z:Nat):Int)))(h1:w.cell? ⟨b,o+1,none⟩=some f):(loadVar 121 ⟨b,o,none⟩).run Tryz.prog w=.ok (cdV z f) w:=by
 have hz:∀ w,(sizeOf 121).run Tryz.prog w=.ok 2 w:=fun w=>by kernel_rfl
 have ha:∀ w,(isAgg 121).run Tryz.prog w=.ok true w:=fun w=>by kernel_rfl
 simp [loadVar,hz,ha,loadCells,go_sem,h0,h1,Zav]
 rfl
theorem PutOk.one {R:Nat->Prop}{w:World}{f:Value}{c:Cd}(h:PutOk R w f c):f.oneCell'=true:=by obtain⟨n,caps,rfl,_⟩:=h;rfl
theorem ld52 {w:World}{ad:Addr}{v:Value}(h:w.cell? ad=some v):(loadVar 119 ad).run Tryz.prog w=.ok v w:=by
 have ha:∀ w,(isAgg 119).run Tryz.prog w=.ok false w:=fun w=>by kernel_rfl
 simp [loadVar,ha,go_sem,h]
theorem ld99 {w:World}{ad:Addr}{v:Value}(h:w.cell? ad=some v):(loadVar 221 ad).run Tryz.prog w=.ok v w:=by
 have ha:∀ w,(isAgg 221).run Tryz.prog w=.ok false w:=fun w=>by kernel_rfl
 simp [loadVar,ha,go_sem,h]
theorem ld113 {w:World}{ad:Addr}{v:Value}(h:w.cell? ad=some v):(loadVar 263 ad).run Tryz.prog w=.ok v w:=by
 have ha:∀ w,(isAgg 263).run Tryz.prog w=.ok false w:=fun w=>by kernel_rfl
 simp [loadVar,ha,go_sem,h]
section
variable {S:Nat->Prop}{w0 w w':World}{L:List Ent}{ops:Array Oper}{rest:List Oper}{a:Act}{Q:Exit->Act->World->Prop}{dst:Option Nat}{x y:Operand}{ty:TypeId}{pos:String}{after:Array Edge}
theorem Zcu (H:St S w0 w L){i:Ins}(hx:a.eval x=ZdB i)(h:∀ g w',St S w0 w' ((true,g,182,Zcf i)::L)->w0.heap.size<=g->w.heap.size<=g->wpList Tryz.prog ops Q rest (a.put dst (.pointer (some ⟨g,0,none⟩))) w'):wpList Tryz.prog ops Q (⟨dst,.box 182 x,ty,pos,after,none⟩::rest) a w:=by
 refine wpList_plain rfl fun K hK=>?_
 unfold Oper.wp
 rw [run_boxI _ _ _ _ _ _ i hx,Oper.upon_value]
 exact hK _ _ (h _ _ (H.alloc 182 _) H.but.size (Nat.le_refl _))
theorem Zib (H:St S w0 w L){z:Nat}{f:Value}(hx:a.eval x=cdV z f)(h:∀ g w',St S w0 w' ((true,g,121,cdA z f)::L)->w0.heap.size<=g->w.heap.size<=g->wpList Tryz.prog ops Q rest (a.put dst (.pointer (some ⟨g,0,none⟩))) w'):wpList Tryz.prog ops Q (⟨dst,.box 121 x,ty,pos,after,none⟩::rest) a w:=by
 refine wpList_plain rfl fun K hK=>?_
 unfold Oper.wp
 rw [run_boxC _ _ _ _ _ _ z f hx,Oper.upon_value]
 exact hK _ _ (h _ _ (H.alloc 121 _) H.but.size (Nat.le_refl _))
theorem ZaS (H:St S w0 w L)(h:∀ g w',St S w0 w' ((true,g,121,cdA 0 .nilFunc)::L)->w0.heap.size<=g->w.heap.size<=g->wpList Tryz.prog ops Q rest (a.put dst (.pointer (some ⟨g,0,none⟩))) w'):wpList Tryz.prog ops Q (⟨dst,.alloc 121,ty,pos,after,none⟩::rest) a w :=
 Zc1 121 _ H (fun w=>Zkn _ _ _ _ _ w) h
theorem ZaU (i:Nat)(H:St S w0 w L){g:Nat}{z z':Nat}{f f':Value}(h:L[i]?=some (true,g,121,cdA z f))(hx:a.eval x=.pointer (some ⟨g,0,none⟩))(hy:a.eval y=cdV z' f')(h1:f'.oneCell'=true)
  (k:∀ w',St S w0 w' (L.set i (true,g,121,cdA z' f'))->wpList Tryz.prog ops Q rest a w'):wpList Tryz.prog ops Q (⟨none,.store 121 x y,ty,pos,after,none⟩::rest) a w :=
 Zc2 i 121 H h hx hy sizeC rfl (by have h2:∀ k n,(Value.int k n).oneCell'=true:=fun _ _=>rfl;simp [cdA,h1,h2]) k
theorem Zep (i:Nat)(H:St S w0 w L){b:Bool}{g:Nat}{z:Nat}{f:Value}(h:L[i]?=some (b,g,121,cdA z f))(hx:a.eval x=.pointer (some ⟨g,0,none⟩))(k:wpList Tryz.prog ops Q rest (a.put dst (cdV z f)) w):wpList Tryz.prog ops Q (⟨dst,.load 121 x,ty,pos,after,none⟩::rest) a w:=Zau 121 hx (ZcI (H.get i h)) k
theorem Zly (i j:Nat)(H:St S w0 w L){b:Bool}{g:Nat}{t:TypeId}{xs:Array Value}{v:Value}(h:L[i]?=some (b,g,t,xs))(hv:xs[j]?=some v)(hx:a.eval x=.pointer (some ⟨g,j,none⟩))(k:wpList Tryz.prog ops Q rest (a.put dst v) w):wpList Tryz.prog ops Q (⟨dst,.load 119 x,ty,pos,after,none⟩::rest) a w:=Zau 119 hx (ld52 (H.cell i j h hv)) k
theorem Zcl (i j:Nat)(H:St S w0 w L){b:Bool}{g:Nat}{t:TypeId}{xs:Array Value}{v:Value}(h:L[i]?=some (b,g,t,xs))(hv:xs[j]?=some v)(hx:a.eval x=.pointer (some ⟨g,j,none⟩))(k:wpList Tryz.prog ops Q rest (a.put dst v) w):wpList Tryz.prog ops Q (⟨dst,.load 221 x,ty,pos,after,none⟩::rest) a w:=Zau 221 hx (ld99 (H.cell i j h hv)) k
theorem Zjr (i j:Nat)(H:St S w0 w L){b:Bool}{g:Nat}{t:TypeId}{xs:Array Value}{v:Value}(h:L[i]?=some (b,g,t,xs))(hv:xs[j]?=some v)(hx:a.eval x=.pointer (some ⟨g,j,none⟩))(k:wpList Tryz.prog ops Q rest (a.put dst v) w):wpList Tryz.prog ops Q (⟨dst,.load 263 x,ty,pos,after,none⟩::rest) a w:=Zau 263 hx (ld113 (H.cell i j h hv)) k
theorem Zdj {n:Nat}{ps:Array Operand}{ts:Array TypeId}(h:wpList Tryz.prog ops Q (⟨dst,.call { callee:=.value (.tmp n),args:=ps,argTypes:=ts },ty,pos,after,none⟩::rest) a w):wpList Tryz.prog ops Q (⟨dst,.call { callee:=.value (.tmp n),args:=ps,argTypes:=ts },ty,pos,after,none⟩::rest) a w:=h
theorem wl_clo {ps:Array Operand}{ts:Array TypeId}{k:Nat}{caps xs:Array Value}(hx:a.eval x=.func (.func k) #[] caps)(hp:ps.map a.eval=xs)(hc:Clo k)(h:Calls Tryz.prog k (xs++caps) w fun e w'=>∃ u,e=.returned u/\wpList Tryz.prog ops Q rest (a.put dst u) w'):wpList Tryz.prog ops Q (⟨dst,.call { callee:=.value x,args:=ps,argTypes:=ts },ty,pos,after,none⟩::rest) a w:=by
 refine wpList_plain rfl fun K hK=>?_
 unfold Oper.wp
 have e:(execOp a.eval ⟨dst,.call { callee:=.value x,args:=ps,argTypes:=ts },ty,pos,after,none⟩).run Tryz.prog w=.ok (.enter k (xs++caps)) w:=by
  simp [execOp,resolve,invoke,Deferred.ofValue,hx,hp,hc (xs++caps) w]
 rw [e]
 refine h.mono ?_
 rintro e w' ⟨u,rfl,hw⟩
 exact hK _ _ hw
theorem Zdm {p q:Operand}{ts:Array TypeId}{k:Nat}{caps:Array Value}{u1 u2:Value}(hx:a.eval x=.func (.func k) #[] caps)(hp:a.eval p=u1)(hq:a.eval q=u2)(hc:Clo k)(h:Calls Tryz.prog k (#[u1,u2]++caps) w fun e w'=>∃ u,e=.returned u/\wpList Tryz.prog ops Q rest (a.put dst u) w'):wpList Tryz.prog ops Q (⟨dst,.call { callee:=.value x,args:=#[p,q],argTypes:=ts },ty,pos,after,none⟩::rest) a w :=
 wl_clo hx (by simp [hp,hq]) hc h
theorem Zic {p:Operand}{ts:Array TypeId}{k:Nat}{caps:Array Value}{u1:Value}(hx:a.eval x=.func (.func k) #[] caps)(hp:a.eval p=u1)(hc:Clo k)(h:Calls Tryz.prog k (#[u1]++caps) w fun e w'=>∃ u,e=.returned u/\wpList Tryz.prog ops Q rest (a.put dst u) w'):wpList Tryz.prog ops Q (⟨dst,.call { callee:=.value x,args:=#[p],argTypes:=ts },ty,pos,after,none⟩::rest) a w :=
 wl_clo hx (by simp [hp]) hc h
theorem St.callB (H:St S w0 w L){T:Nat->Prop}(hb:But T w w')(hT:∀ i,i<w0.heap.size->T i->S i)(hn:∀ x ∈ L,¬ T x.2.1):St S w0 w' L:=H.callS hb hT rfl (fun x hx=>.inl ⟨hx,hn x hx⟩)
end
end
section
open Go.RowKit
theorem load25i {w:World}{g:Nat}{i:Ins}(h:w.heap[g]?=some (.cells (Zcf i) 182 (0,0))):(loadVar 24 ⟨g,1,none⟩).run Tryz.prog w=.ok (Zbf i.s) w:=by
 refine Zh5 (fun q hq=>?_)
 rw [cell_of_row w g (1+q) _ 182 (0,0) h]
 rcases (show q=0\/q=1\/q=2\/q=3 by omega) with rfl|rfl|rfl|rfl <;> rfl
theorem St.ins {S:Nat->Prop}{w0 w:World}{L:List Ent}(H:St S w0 w L)(i:Nat){b:Bool}{g:Nat}{x:Ins}(h:L[i]?=some (b,g,182,Zcf x)):(loadVar 24 ⟨g,1,none⟩).run Tryz.prog w=.ok (Zbf x.s) w:=load25i (H.get i h)
theorem St.ro {S:Nat->Prop}{w0 w:World}{L:List Ent}(H:St S w0 w L){g:Nat}{t:TypeId}{xs:Array Value}(h:w.heap[g]?=some (.cells xs t (0,0)))(hn:∀ x ∈ L,x.2.1≠g):St S w0 w ((false,g,t,xs)::L):=by
 refine⟨H.but,fun x hx=>?_,fun x hx hr=>?_,?_⟩
 ·rcases List.mem_cons.1 hx with rfl|hx
  ·exact h
  ·exact H.all x hx
 ·rcases List.mem_cons.1 hx with rfl|hx
  ·cases hr
  ·exact H.ok x hx hr
 ·rw [List.map_cons,List.nodup_cons]
  refine⟨fun h'=>?_,H.nd⟩
  obtain⟨x,hx,e⟩:=List.mem_map.1 h'
  exact hn x hx e
section
variable {S:Nat->Prop}{w0 w w':World}{L:List Ent}{ops:Array Oper}{rest:List Oper}{a:Act}{Q:Exit->Act->World->Prop}{dst:Option Nat}{x y z:Operand}{ty:TypeId}{pos:String}{after:Array Edge}
theorem ZaI {op:Op}{v:Value}(hrun:(execOp a.eval ⟨dst,op,ty,pos,after,none⟩).run Tryz.prog w=.ok (.value v) w')(h:wpList Tryz.prog ops Q rest (a.put dst v) w'):wpList Tryz.prog ops Q (⟨dst,op,ty,pos,after,none⟩::rest) a w:=by
 refine wpList_plain rfl fun K hK=>?_
 unfold Oper.wp
 rw [hrun]
 exact hK _ _ h
theorem Zbe (t:TypeId){ps:Array (Nat × Operand)}(h:wpList Tryz.prog ops Q (⟨dst,.build t ps,ty,pos,after,none⟩::rest) a w):wpList Tryz.prog ops Q (⟨dst,.build t ps,ty,pos,after,none⟩::rest) a w:=h
theorem Zid (ev:Operand->Value)(o m:Int)(s:S4)(h0:ev x=.int .i64 o)(h1:ev y=Zbf s)(h2:ev z=.int .i64 m)(w:World):(execOp ev ⟨dst,.build 182 #[(0,x),(1,y),(2,z)],ty,pos,after,none⟩).run Tryz.prog w=.ok (.value (ZdB ⟨o,s,m,0⟩)) w:=by
 unfold execOp
 simp only [List.map_toArray,List.map_cons,List.map_nil,h0,h1,h2]
 kernel_rfl
theorem Zdn (ev:Operand->Value)(o:Int)(h0:ev x=.int .i64 o)(w:World):(execOp ev ⟨dst,.build 182 #[(0,x)],ty,pos,after,none⟩).run Tryz.prog w=.ok (.value (ZdB ⟨o,noSet,0,0⟩)) w:=by
 unfold execOp
 simp only [List.map_toArray,List.map_cons,List.map_nil,h0]
 kernel_rfl
theorem Zie (ev:Operand->Value)(o:Int)(s:S4)(h0:ev x=.int .i64 o)(h1:ev y=Zbf s)(w:World):(execOp ev ⟨dst,.build 182 #[(0,x),(1,y)],ty,pos,after,none⟩).run Tryz.prog w=.ok (.value (ZdB ⟨o,s,0,0⟩)) w:=by
 unfold execOp
 simp only [List.map_toArray,List.map_cons,List.map_nil,h0,h1]
 kernel_rfl
theorem ZgU (ev:Operand->Value)(m o:Int)(hz:ev z=.int .i64 2)(h0:ev x=.int .i64 m)(h1:ev y=.int .i64 o)(w:World):(execOp ev ⟨dst,.build 182 #[(0,z),(2,x),(3,y)],ty,pos,after,none⟩).run Tryz.prog w=.ok (.value (ZdB ⟨2,noSet,m,o⟩)) w:=by
 unfold execOp
 simp only [List.map_toArray,List.map_cons,List.map_nil,hz,h0,h1]
 kernel_rfl
end
theorem Zlz {W w2:World}{v v2:Value}{J:List Ins}(r2:RI w2 v2 J)(b2:But (fun k=>v.ownBlock=some k) W w2)(o2:v2.ownBlock=v.ownBlock\/v2.ownBlock=some (W.heap.size+1)):PutE W v J (.returned v2) w2 :=
 ⟨_,rfl,r2,b2,fun k hk=>by
  rcases o2 with o2|o2
  ·exact .inl (o2 ▸ hk)
  ·right;rw [o2] at hk;cases hk;omega⟩
theorem PutE.after {W w2 w3:World}{v v2:Value}{J:List Ins}{e:Ending}(b2:But (fun k=>v.ownBlock=some k) W w2)(o2:∀ k,v2.ownBlock=some k->v.ownBlock=some k\/W.heap.size<=k)(h:PutE w2 v2 J e w3):PutE W v J e w3:=by
 obtain⟨v3,rfl,r3,b3,o3⟩:=h
 refine⟨v3,rfl,r3,b2.trans b3 (fun i hi h=>?_),fun k hk=>?_⟩
 ·rcases o2 i h with h|h
  ·exact h
  ·omega
 ·rcases o3 k hk with h|h
  ·exact o2 k h
  ·right;have:=b2.size;omega
theorem Zif (g:Nat)(i:Ins)(W:World)(v:Value)(I:List Ins)(m:Nat)(hg:W.heap[g]?=some (.cells (Zcf i) 182 (0,0)))(hr:RI W v I)(hl:I.length<=100000) :
  Calls Tryz.prog 201 #[v,.int .i64 ((m:Nat):Int),.pointer (some ⟨g,0,none⟩)] W (PutE W v (I++[⟨i.op,i.s,(m:Int),0⟩])):=by
 have H:=(St.start Nope W).ro hg (fun _ h=>(List.not_mem_nil h).elim)
 obtain⟨a,c,hv⟩:=hr.val
 subst hv
 replace hr:=Zaa hr
 replace hg:=Zaa hg
 generalize hI:I++[(⟨i.op,i.s,(m:Int),0⟩:Ins)]=J
 go_enter Tryz.func201,Tryz.ntmps201
 go_wp2_with (first|((with_reducible refine Zac 3 ?_);refine Zax 0 0 H (v:=.int .i64 i.op) rfl rfl rfl ?_)|((with_reducible refine Zac 24 ?_);refine Zau 24 rfl (H.ins 0 rfl) ?_)|((with_reducible refine Zbe 182 ?_);refine ZaI (Zid _ i.op m i.s rfl rfl rfl _) ?_)|((with_reducible refine at_ins ?_);refine wl_ins (i:=⟨i.op,i.s,(m:Int),0⟩) hr.out (by omega) (fun _=>rfl) (fun _=>rfl) rfl ?_;intro u v2 w2 r2 b2 o2))
 go_ret
 exact Zlz (hI ▸ r2) b2 o2
theorem end1_any (W:World)(v:Value)(I:List Ins)(m:Int)(hr:RI W v I)(hl:I.length<=100000) :
  Calls Tryz.prog 162 #[v,.int .i64 m] W (PutE W v (I++[⟨3,noSet,0,0⟩])):=by
 obtain⟨a,c,hv⟩:=hr.val
 subst hv
 replace hr:=Zaa hr
 generalize hI:I++[(⟨3,noSet,0,0⟩:Ins)]=J
 go_enter Tryz.func162,Tryz.ntmps162
 go_wp2_with (first|((with_reducible refine Zbe 182 ?_);refine ZaI (Zdn _ 3 rfl _) ?_)|((with_reducible refine at_ins ?_);refine wl_ins (i:=⟨3,noSet,0,0⟩) hr.out (by omega) (fun _=>rfl) (fun _=>rfl) rfl ?_;intro u v2 w2 r2 b2 o2))
 go_ret
 exact Zlz (hI ▸ r2) b2 o2
section
variable {w w':World}{ops:Array Oper}{o:Oper}{a:Act}{Q:Exit->Act->World->Prop}{K:Act->World->Prop}{E:Prop}{x:Operand}
theorem wp_bsI {i:Ins}(ho:o.op=.buildSlice 72 1 #[(0,x)])(hx:a.eval x=ZdB i)(h:K (a.put o.dst (.slice (some ⟨w.heap.size,0,none⟩) 1 1)) (w.alloc (.cells (Zcf i) 182))):o.wp Tryz.prog a w K Q:=by
 unfold Oper.wp execOp
 simp only [ho,List.map_toArray,List.map_cons,List.map_nil,hx,Sem.run_bind,Zlx,Result.andThen_ok,Sem.run_pure]
 exact h
theorem Zf5 {dst:Option Nat}{ty:TypeId}{pos:String}{after:Array Edge}{ps:Array Operand}{ts:Array TypeId}{k:Nat}{caps xs:Array Value}(ho:o=⟨dst,.call { callee:=.value x,args:=ps,argTypes:=ts },ty,pos,after,none⟩)(hx:a.eval x=.func (.func k) #[] caps)(hp:ps.map a.eval=xs)(hc:Clo k)
  (h:Calls Tryz.prog k (xs++caps) w fun e w'=>∃ u,e=.returned u/\K (a.put dst u) w'):if Region.wanted o (yielded ops a.tmps)=true then Oper.wp Tryz.prog o a w K Q else E:=by
 subst ho
 rw [if_pos (by simp [Region.wanted])]
 unfold Oper.wp
 have e:(execOp a.eval ⟨dst,.call { callee:=.value x,args:=ps,argTypes:=ts },ty,pos,after,none⟩).run Tryz.prog w=.ok (.enter k (xs++caps)) w:=by
  simp [execOp,resolve,invoke,Deferred.ofValue,hx,hp,hc (xs++caps) w]
 rw [e]
 refine h.mono ?_
 rintro e w' ⟨u,rfl,hw⟩
 exact hw
theorem ZeH {dst:Option Nat}{ty:TypeId}{pos:String}{after:Array Edge}{p q:Operand}{ts:Array TypeId}{k:Nat}{caps:Array Value}{u1 u2:Value}(ho:o=⟨dst,.call { callee:=.value x,args:=#[p,q],argTypes:=ts },ty,pos,after,none⟩)(hx:a.eval x=.func (.func k) #[] caps)(hp:a.eval p=u1)(hq:a.eval q=u2)(hc:Clo k)
  (h:Calls Tryz.prog k (#[u1,u2]++caps) w fun e w'=>∃ u,e=.returned u/\K (a.put dst u) w'):if Region.wanted o (yielded ops a.tmps)=true then Oper.wp Tryz.prog o a w K Q else E:=Zf5 ho hx (by simp [hp,hq]) hc h
theorem Zko (hgd:o.guard=none)(s x:Operand)(ho:o.op=.call { callee:=.builtin .append,args:=#[s,x],argTypes:=#[72,72] })(v1 v2 v':Value)(w':World)(hs:a.eval s=v1)(hx:a.eval x=v2)
  (hr:(Builtin.append_ #[72,72] o.type #[v1,v2]).run Tryz.prog w=.ok v' w') (h:K (a.put o.dst v') w') :
  if Region.wanted o (yielded ops a.tmps)=true then Oper.wp Tryz.prog o a w K Q else E:=by
 have hw:Region.wanted o (yielded ops a.tmps)=true:=by simp [Region.wanted,hgd]
 rw [if_pos hw]
 unfold Oper.wp
 simp [execOp,ho,resolve,invoke,builtin,hs,hx,hr,Result.andThen]
 exact h
end
set_option maxRecDepth 100000 in
theorem Zig (gc go:Nat)(z:Nat)(f:Value)(c:Cd)(o:Nat)(W:World)(v:Value)(I:List Ins)(m:Nat)(hgc:W.heap[gc]?=some (.cells (cdA z f) 121 (0,0)))(hgo:W.heap[go]?=some (.cells #[.int .i64 (o:Int)] 3 (0,0)))(hf:PutOk (fun k=>v.ownBlock=some k) W f c)(hn:v.ownBlock≠some gc/\v.ownBlock≠some go)(hr:RI W v I)(hl:I.length+(1+c.n)<=100000)(hm:m<=100000) :
  Calls Tryz.prog 226 #[v,.int .i64 ((m:Nat):Int),.pointer (some ⟨gc,0,none⟩),.pointer (some ⟨go,0,none⟩)] W (PutE W v (I++(opt c o).put I.length m)):=by
 obtain⟨nf,caps,rfl,hcl,PF⟩:=hf
 obtain⟨a,cp,hv⟩:=hr.val
 subst hv
 obtain⟨n1,hn1⟩:∃ n1,n1=I.length+1:=⟨_,rfl⟩
 have d1:W.cell? ⟨gc,1,none⟩=some (.func (.func nf) #[] caps):=by rw [cell_of_row W gc 1 _ 121 (0,0) hgc];rfl
 have d2:W.cell? ⟨go,0,none⟩=some (.int .i64 (o:Int)):=by rw [cell_of_row W go 0 _ 3 (0,0) hgo];rfl
 have lc:gc<W.heap.size:=(Array.getElem?_eq_some_iff.1 hgc).1
 have lo:go<W.heap.size:=(Array.getElem?_eq_some_iff.1 hgo).1
 have BA:Below W.heap.size W (W.drew.alloc (.cells (Zcf ⟨2,noSet,(n1:Int),(o:Int)⟩) 182)):=((Below.refl _ W).drew).alloc (Nat.le_refl _) _
 obtain⟨v2,w2,R2,r2,g2,o2⟩:=Zjp (W.drew.alloc (.cells (Zcf ⟨2,noSet,(n1:Int),(o:Int)⟩) 182)) 72 _ I ⟨2,noSet,(n1:Int),(o:Int)⟩ (hr.below BA) (by omega) W.heap.size (heap_alloc_new W.drew _)
 have e1:=(BA.cell (p:=⟨gc,1,none⟩) lc).trans d1
 have e2:=(BA.cell (p:=⟨go,0,none⟩) lo).trans d2
 have b2:But (fun k=>(Value.slice a I.length cp).ownBlock=some k) W w2:=(Zbd BA _ (fun k h1 h2=>by omega)).grown g2 (fun k e _=>e)
 have f1:=(World.cell?_of_block (a:=⟨gc,1,none⟩) (b2.block gc lc hn.1)).trans d1
 have f2:=(World.cell?_of_block (a:=⟨go,0,none⟩) (b2.block go lo hn.2)).trans d2
 have PP:=Zaa (PF w2 v2 (I++[⟨2,noSet,(n1:Int),(o:Int)⟩]) m ((Kp.refl _ W).but b2 (fun i h=>.inl h)) r2 (fun k hk=>by
  rcases o2 with o2|o2
  ·exact .inl (o2 ▸ hk)
  ·right;rw [o2] at hk;cases hk;simp) (by simp;omega) hm)
 replace o2:Hid (∀ k,v2.ownBlock=some k->(Value.slice a I.length cp).ownBlock=some k\/W.heap.size<=k):=fun k hk=>by
  rcases o2 with o2|o2
  ·exact .inl (o2 ▸ hk)
  ·right;rw [o2] at hk;cases hk;simp
 have hlen:IntKind.i64.wrap ((I.length:Int)+1)=(n1:Int):=by rw [IntKind.wrap_i64];omega
 replace hn1:=Zaa hn1
 replace hr:=Zaa hr
 replace hgc:=Zaa hgc
 replace hgo:=Zaa hgo
 replace r2:=Zaa r2
 replace g2:=Zaa g2
 replace PF:=Zaa PF
 replace b2:=Zaa b2
 clear BA
 go_enter Tryz.func226,Tryz.ntmps226
 go_wp2_with fail
 refine wp_region_noPanic ?_
 refine wp_region_held_drew (S:=(fun w'=>w'.cell? ⟨gc,1,none⟩=some (.func (.func nf) #[] caps)/\w'.cell? ⟨go,0,none⟩=some (.int .i64 (o:Int)))) (by kernel_rfl) ⟨d1,d2⟩ (fun hH0=>?_)
 refine wpAnyH_take (i:=0) (oi:=⟨some 7,.fieldAddr 121 (.tmp 2) 1,0,"code.go:118",#[],none⟩) (v:=?_) rfl (by kernel_rfl) (by kernel_rfl) (by kernel_rfl) (fun _ _ _ h=>h) (Or.inl ⟨by rfl,?_⟩) hH0 ?_
 rotate_left
 ·intro w' hw'
  obtain⟨c1,c2⟩:=hw'
  go_simp
  try with_reducible rfl
 try simp only [Act.put,PuA]
 refine wpAnyH_take (i:=1) (oi:=⟨some 8,.load 119 (.tmp 7),119,"code.go:118",#[⟨0,.data⟩],none⟩) (v:=?_) rfl (by kernel_rfl) (by kernel_rfl) (by kernel_rfl) (fun _ _ _ h=>h) (Or.inl ⟨by rfl,?_⟩) hH0 ?_
 rotate_left
 ·intro w' hw'
  obtain⟨c1,c2⟩:=hw'
  go_simp
  try with_reducible rfl
 try simp only [Act.put,PuA]
 refine wpAnyH_take (i:=2) (oi:=⟨some 9,.move (.tmp 0),72,"code.go:118",#[],none⟩) (v:=?_) rfl (by kernel_rfl) (by kernel_rfl) (by kernel_rfl) (fun _ _ _ h=>h) (Or.inl ⟨by rfl,?_⟩) hH0 ?_
 rotate_left
 ·intro w' hw'
  obtain⟨c1,c2⟩:=hw'
  go_simp
  try with_reducible rfl
 try simp only [Act.put,PuA]
 refine wpAnyH_take (i:=3) (oi:=⟨some 10,.move (.tmp 0),72,"code.go:118",#[],none⟩) (v:=?_) rfl (by kernel_rfl) (by kernel_rfl) (by kernel_rfl) (fun _ _ _ h=>h) (Or.inl ⟨by rfl,?_⟩) hH0 ?_
 rotate_left
 ·intro w' hw'
  obtain⟨c1,c2⟩:=hw'
  go_simp
  try with_reducible rfl
 try simp only [Act.put,PuA]
 refine wpAnyH_take (i:=4) (oi:=⟨some 11,.call { callee:=.builtin .len,args:=#[.tmp 10],argTypes:=#[72] },3,"code.go:118",#[⟨3,.data⟩],none⟩) (v:=?_) rfl (by kernel_rfl) (by kernel_rfl) (by kernel_rfl) (fun _ _ _ h=>h) (Or.inl ⟨by rfl,?_⟩) hH0 ?_
 rotate_left
 ·intro w' hw'
  obtain⟨c1,c2⟩:=hw'
  go_simp
  try with_reducible rfl
 try simp only [Act.put,PuA]
 refine wpAnyH_take (i:=5) (oi:=⟨some 12,.binOp .add 3 (.tmp 11) (.const (.int .i64 1)) 3,3,"code.go:118",#[⟨4,.data⟩],none⟩) (v:=?_) rfl (by kernel_rfl) (by kernel_rfl) (by kernel_rfl) (fun _ _ _ h=>h) (Or.inl ⟨by rfl,?_⟩) hH0 ?_
 rotate_left
 ·intro w' hw'
  obtain⟨c1,c2⟩:=hw'
  go_simp
  try with_reducible rfl
 try simp only [Act.put,PuA]
 refine wpAnyH_take (i:=6) (oi:=⟨some 13,.load 3 (.tmp 3),3,"code.go:118",#[],none⟩) (v:=?_) rfl (by kernel_rfl) (by kernel_rfl) (by kernel_rfl) (fun _ _ _ h=>h) (Or.inl ⟨by rfl,?_⟩) hH0 ?_
 rotate_left
 ·intro w' hw'
  obtain⟨c1,c2⟩:=hw'
  go_simp
  try with_reducible rfl
 try simp only [Act.put,PuA]
 refine wpAnyH_take (i:=7) (oi:=⟨some 14,.build 182 #[(0,.const (.int .i64 2)),(2,.tmp 12),(3,.tmp 13)],182,"code.go:118",#[⟨5,.data⟩,⟨6,.data⟩],none⟩) (v:=ZdB ⟨2,noSet,(n1:Int),(o:Int)⟩) rfl (by kernel_rfl) (by kernel_rfl) (by kernel_rfl) (fun _ _ _ h=>h) (Or.inl ⟨by rfl,fun w' hw'=>ZgU _ _ _ rfl rfl rfl _⟩) hH0 ?_
 try simp only [Act.put,PuA]
 refine wpAnyH_take (i:=10) (oi:=⟨some 17,.move (.tmp 1),3,"code.go:118",#[],none⟩) (v:=?_) rfl (by kernel_rfl) (by kernel_rfl) (by kernel_rfl) (fun _ _ _ h=>h) (Or.inl ⟨by rfl,?_⟩) hH0 ?_
 rotate_left
 ·intro w' hw'
  obtain⟨c1,c2⟩:=hw'
  go_simp
  try with_reducible rfl
 try simp only [Act.put,PuA]
 refine wpAnyH_ready (rs:=[8]) (by kernel_rfl) (by simp) ?_
 refine AllReadyH.cons (o:=⟨some 15,.buildSlice 72 1 #[(0,.tmp 14)],72,"code.go:118",#[⟨7,.data⟩],none⟩) rfl (fun K hK=>?_) AllReadyH.nil
 rw [if_pos (by rfl)]
 refine wp_bsI rfl rfl ?_
 refine hK.out _ _ ⟨e1,e2⟩ (fun hH1=>?_)
 clear hK
 try simp only [Act.put,PuA]
 refine wpAnyH_ready (rs:=[9]) (by kernel_rfl) (by simp) ?_
 refine AllReadyH.cons (o:=⟨some 16,.call { callee:=.builtin .append,args:=#[.tmp 9,.tmp 15],argTypes:=#[72,72] },72,"code.go:118",#[⟨2,.data⟩,⟨8,.data⟩],none⟩) rfl (fun K hK=>?_) AllReadyH.nil
 refine Zko rfl (.tmp 9) (.tmp 15) rfl _ _ _ _ rfl rfl R2 ?_
 refine hK.out _ _ ⟨f1,f2⟩ (fun hH2=>?_)
 clear hK
 try simp only [Act.put,PuA]
 refine wpAnyH_ready (rs:=[11]) (by kernel_rfl) (by simp) ?_
 refine AllReadyH.cons (o:=⟨some 18,.call { callee:=.value (.tmp 8),args:=#[.tmp 16,.tmp 17],argTypes:=#[72,3] },72,"code.go:118",#[⟨1,.data⟩,⟨9,.data⟩,⟨10,.data⟩,⟨9,.chain⟩],none⟩) rfl (fun K hK=>?_) AllReadyH.nil
 refine ZeH (u1:=v2) (u2:=.int .i64 (m:Int)) rfl rfl rfl rfl hcl ?_
 refine (PP.out).mono ?_
 rintro e w3 ⟨v3,rfl,r3,b3,o3⟩
 refine⟨v3,rfl,?_⟩
 refine hK.out _ _ ⟨?_,?_⟩ (fun hH3=>?_)
 ·exact (World.cell?_of_block (a:=⟨gc,1,none⟩) (b3.block gc (by have:=b2.out.size;omega) (fun h=>by rcases o2.out gc h with h|h;exact hn.1 h;omega))).trans f1
 ·exact (World.cell?_of_block (a:=⟨go,0,none⟩) (b3.block go (by have:=b2.out.size;omega) (fun h=>by rcases o2.out go h with h|h;exact hn.2 h;omega))).trans f2
 replace b3:=Zaa b3
 replace r3:=Zaa r3
 replace o3:=Zaa o3
 clear hK
 try simp only [Act.put,PuA]
 refine wpAnyH_take (i:=12) (oi:=⟨some 6,.assign (.tmp 18),72,"code.go:118",#[⟨11,.data⟩,⟨11,.chain⟩,⟨0,.phase⟩,⟨1,.phase⟩,⟨2,.phase⟩,⟨3,.phase⟩,⟨4,.phase⟩,⟨5,.phase⟩,⟨6,.phase⟩,⟨7,.phase⟩,⟨8,.phase⟩,⟨9,.phase⟩,⟨10,.phase⟩,⟨11,.phase⟩],none⟩) (v:=?_) rfl (by kernel_rfl) (by kernel_rfl) (by kernel_rfl) (fun _ _ _ h=>h) (Or.inl ⟨by rfl,?_⟩) hH3 ?_
 rotate_left
 ·intro w' hw'
  obtain⟨c1,c2⟩:=hw'
  go_simp
  try with_reducible rfl
 try simp only [Act.put,PuA]
 refine wpAnyH_done (by kernel_rfl) ?_ _
 refine NoPanic.normal ?_
 go_wp2_with fail
 go_ret
 have h3:=PutE.after b2.out o2.out ⟨v3,rfl,r3.out,b3.out,o3.out⟩
 have e3:I++(opt c o).put I.length m=I++[⟨2,noSet,(n1:Int),(o:Int)⟩]++c.put (I++[(⟨2,noSet,(n1:Int),(o:Int)⟩:Ins)]).length m:=by
  simp only [opt,List.append_assoc,List.singleton_append,List.length_append,List.length_cons,List.length_nil,hn1.out,Nat.zero_add]
 rw [e3]
 exact h3
end
end Go.Proofs.YtnffbmipllhjdaaGreatDoor
