import Derived.Laws.Cover3
import Derived.Test.YtgnfknjopafngaaGreatDoorKtaq
set_option maxRecDepth 100000
set_option maxHeartbeats 16000000
namespace Go.Proofs.YtgnfknjopafngaaGreatDoor
open Go.RowKit Go.Maps
def Yde(w:World)(v:Value)(kl:List Int):Prop:=∃ g,v=.slice (some ⟨g,0,none⟩) kl.length kl.length/\∀ j (hj:j<kl.length),w.cell? ⟨g,j,none⟩=some (.int .i64 kl[j])
def allowed(kl:List Int)(k:Int):Bool:=decide (k=1) || decide (k=2) || kl.any (fun x=>decide (k=x))
def opV(o:OpD):Value:=.agg #[.int .i64 o.kind,.int .i64 o.a,.int .i64 o.b,.string o.s]
theorem Yc9{kl:List Int}{k:Int}{j:Nat}(hj:j<kl.length):(kl.take (j+1)).any (fun x=>decide (k=x))=((kl.take j).any (fun x=>decide (k=x)) || decide (k=kl[j])):=by
 rw[List.take_succ_eq_append_getElem hj,List.any_append]
 simp
theorem Ydf(g n c:Nat)(w:World):(binOp .eql 39 (.slice (some ⟨g,0,none⟩) n c) (.slice none 0 0)).run Tryz.prog w=.ok (.bool false) w:=by
 simp only[binOp]
 simp[run_equal_slice_nil w _ _ _ n c Tryz.underlying39]
theorem Ydc(sectors:Int)(ov kv:Value)(ops:List OpD)(kl:List Int)(w:World)(NewPost:Nat->World->Prop)(Inv:Nat->Nat->World->Prop)
 (ho:Zql w ov ops) (hos:∀ o∈ops,o.s.size<=1000000000000000000) (hk:Yde w kv kl) (hkl:0<kl.length) (hkm:kl.length<=100)
 (hNew:∀ w1,Below w.heap.size w w1->Calls Tryz.prog 20 #[.int .i64 sectors] w1 fun e w'=>∃ x,e=.returned (.tuple #[.pointer (some ⟨x,0,none⟩),okV])/\NewPost x w')
 (hStart:∀ x w1 W0,NewPost x w1->Below w1.heap.size w1 W0->ops.length+bytesOf ops<=8192->Inv W0.heap.size 0 (W0.alloc (.cells #[.pointer (some ⟨x,0,none⟩),.int .i64 (Zb5 sectors),.slice none 0 0,.slice none 0 0,.bool false,.slice none 0 0] 79)))
 (hIn:∀ wb k W,Inv wb k W->Zql W ov ops/\Yde W kv kl/\Below w.heap.size w W)
 (hStep:∀ wb k W (h:k<ops.length),ops.length+bytesOf ops<=8192->Inv wb k W->allowed kl ops[k].kind=true->Calls Tryz.prog 41 #[.pointer (some ⟨wb,0,none⟩),opV ops[k]] W fun e W'=>e=.returned (.bool true)/\Inv wb (k+1) W')
 (hSkip:∀ wb k W (h:k<ops.length),Inv wb k W->allowed kl ops[k].kind=false->Inv wb (k+1) W)
 (hFin:(kl[kl.length-1]'(by omega)=10/\∀ wb W,Inv wb ops.length W->Calls Tryz.prog 42 #[.pointer (some ⟨wb,0,none⟩),.int .i64 (-1),.int .i64 (-1)] W fun e W'=>e=.returned (.bool true)/\Below w.heap.size w W') \/
   (kl[kl.length-1]'(by omega)≠10/\kl.length=1) \/
   (kl[kl.length-1]'(by omega)≠10/\kl.length≠1/\∀ wb W,Inv wb ops.length W->Calls Tryz.prog 43 #[.pointer (some ⟨wb,0,none⟩)] W fun e W'=>e=.returned (.bool true)/\Below w.heap.size w W')):
 Calls Tryz.prog 17 #[.int .i64 sectors,ov,kv] w fun e W'=>e=.returned (.bool true)/\Below w.heap.size w W':=by
 have cS:=Z6l ov ops w ho hos
 obtain⟨ao,co,eo,hoc1,hoc2,_⟩:=ho
 subst eo
 obtain⟨gk,ek,-⟩:=hk
 subst ek
 have hkm2:(kl.length:Int)<=100:=by omega
 have hol:ops.length<=9223372036854775807:=by unfold maxLen at hoc2;omega
 by_cases hs:ops.length+bytesOf ops<=8192
 ·have HNew:Hid (∀ w1,Below w.heap.size w w1->Calls Tryz.prog 20 #[.int .i64 sectors] w1 fun e w'=>∃ x,e=.returned (.tuple #[.pointer (some ⟨x,0,none⟩),okV])/\NewPost x w'):=hNew
  rw[show decide (ops.length+bytesOf ops<=8192)=true by simpa using hs] at cS
  have HS:=hid hs
  have hol8:ops.length<=8192:=by omega
  have cC:=fun wx=>Zxq sectors wx
  have hsec:=Zko sectors
  clear hs hNew
  go_enter Tryz.func17,Tryz.ntmps17
  go_wp2_with (first
   | (go_at_call 39;refine cS.mono ?_;rintro e w1 ⟨rfl,hB1⟩)
   | (go_at_call 20;refine(HNew.out _ hB1).mono ?_;rintro e w2 ⟨x,rfl,hN⟩;have HN:Hid (NewPost x w2):=hN;clear hN)
   | (go_at_call 40;refine(cC _).mono ?_;rintro e w3 ⟨rfl,rfl⟩))
  have hN0:=HN.out
  have HI0:=hStart x w2 (w2.alloc (.cells #[.int .i64 0,.int .i64 0,.int .i64 0,.string ⟨#[]⟩] 23)) hN0 ((Below.refl _ w2).alloc ler _) HS.out
  rw[World.size_alloc] at HI0
  have HI:=hid HI0
  have HIn:=hid hIn
  have HSt:=hid hStep
  have HSk:=hid hSkip
  clear hN0 HI0 hIn hStep hSkip hStart cS cC HN hos hB1 HNew
  go_loopw [12,13,14,15,16] (fun i _ _ _ _ wr=>∃ k:Nat,i=.int .i64 k/\k<=ops.length/\Hid (Inv (w2.heap.size+1) k wr)) (fun i _ _ _ _ _=>ops.length-(intOf i).toNat)
  case atStart=>exact⟨0,rfl,Nat.zero_le _,HI⟩
  case round=>
   obtain⟨k,rfl,hkn,HK⟩:=hrel
   obtain⟨W0,hW0⟩:∃ W,W=wr:=⟨_,rfl⟩
   subst hW0
   obtain⟨hOI,⟨gk',ekv,hkc⟩,hBW⟩:=HIn.out _ _ _ HK.out
   have HBW:=hid hBW
   clear hBW
   injection ekv with e1
   injection e1 with e1
   injection e1 with e1
   subst e1
   have hnil:=Ydf
   have HKc:=hid hkc
   by_cases hlt:k<ops.length
   ·obtain⟨a2,c2,e2,_,_,hoc⟩:=hOI
    injection e2 with e2 _ e3
    subst e2 e3
    obtain⟨go,off,rfl,hgo,hcell⟩:=hoc (by omega)
    obtain⟨p0,p1,p2,p3⟩:=hcell k hlt
    have HSt2:=HSt.out (w2.heap.size+1) k W0 hlt HS.out HK.out
    have HSk2:=HSk.out (w2.heap.size+1) k W0 hlt HK.out
    unfold opV at HSt2
    generalize ops[k].kind=K at p0 HSt2 HSk2
    generalize ops[k].a=OA at p1 HSt2
    generalize ops[k].b=OB at p2 HSt2
    generalize ops[k].s=OS at p3 HSt2
    have HT:=hid HSt2
    have HF:=hid HSk2
    have hm1:(k:Int)<(ops.length:Int):=by omega
    clear hcell hoc HSt2 HSk2 hkc hgo
    obtain⟨b,hb,hbk⟩:∃ b:Bool,allowed kl K=(b || kl.any (fun x=>decide (K=x)))/\((b=true/\K=1)\/(b=true/\K=2/\K≠1)\/(b=false/\K≠1/\K≠2)):=by
     by_cases h1:K=1
     ·exact⟨true,by unfold allowed;simp[h1],.inl ⟨rfl,h1⟩⟩
     ·by_cases h2:K=2
      ·exact⟨true,by unfold allowed;simp[h2],.inr (.inl ⟨rfl,h2,h1⟩)⟩
      ·exact⟨false,by unfold allowed;simp[h1,h2],.inr (.inr ⟨rfl,h1,h2⟩)⟩
    have HB:=hid hb
    clear hb
    rcases hbk with ⟨rfl,rfl⟩|⟨rfl,rfl,hk1⟩|⟨rfl,hk1,hk2⟩
    ·have HA:Hid (allowed kl 1=true):=by show _ = _;rw[HB.out];rfl
     have cT:=HT.out HA.out
     clear HF HT HB HA
     go_wp2
     go_loopw [14,15] (fun t j wr=>∃ i:Nat,j=.int .i64 i/\i<=kl.length/\t=.bool true/\W0=wr) (fun _ j _=>kl.length-(intOf j).toNat)
     case atStart=>exact⟨0,rfl,Nat.zero_le _,rfl,rfl⟩
     case round=>
      obtain⟨i,rfl,hi,rfl,rfl⟩:=hrel
      by_cases hil:i<kl.length
      ·go_wp2
       go_roundw
       case rel=>exact⟨i+1,by go_num,by omega,by first|rfl|trivial,by first|rfl|trivial⟩
       case measure=>simp[intOf];omega
      ·go_wp2_with fail
       refine cT.mono ?_
       rintro e W1 ⟨rfl,hI1⟩
       have HI1:=hid hI1
       clear hI1 cT
       go_wp2
       go_roundw
       case rel=>exact⟨k+1,by go_num,by omega,HI1⟩
       case measure=>simp[intOf];omega
    ·have HA:Hid (allowed kl 2=true):=by show _ = _;rw[HB.out];rfl
     have cT:=HT.out HA.out
     clear HF HT HB HA
     go_wp2
     go_loopw [14,15] (fun t j wr=>∃ i:Nat,j=.int .i64 i/\i<=kl.length/\t=.bool true/\W0=wr) (fun _ j _=>kl.length-(intOf j).toNat)
     case atStart=>exact⟨0,rfl,Nat.zero_le _,rfl,rfl⟩
     case round=>
      obtain⟨i,rfl,hi,rfl,rfl⟩:=hrel
      by_cases hil:i<kl.length
      ·go_wp2
       go_roundw
       case rel=>exact⟨i+1,by go_num,by omega,by first|rfl|trivial,by first|rfl|trivial⟩
       case measure=>simp[intOf];omega
      ·go_wp2_with fail
       refine cT.mono ?_
       rintro e W1 ⟨rfl,hI1⟩
       have HI1:=hid hI1
       clear hI1 cT
       go_wp2
       go_roundw
       case rel=>exact⟨k+1,by go_num,by omega,HI1⟩
       case measure=>simp[intOf];omega
    ·rw[Bool.false_or] at HB
     have hq1:(K == 1)=false:=by simpa using hk1
     have hq2:(K == 2)=false:=by simpa using hk2
     go_wp2
     go_loopw [14,15] (fun t j wr=>∃ i:Nat,j=.int .i64 i/\i<=kl.length/\(∃ t0:Bool,t=.bool t0/\Hid (t0=(kl.take i).any (fun x=>decide (K=x))))/\W0=wr) (fun _ j _=>kl.length-(intOf j).toNat)
     case atStart=>exact⟨0,rfl,Nat.zero_le _,⟨false,rfl,by show _ = _;simp⟩,rfl⟩
     case round=>
      obtain⟨i,rfl,hi,⟨t0,rfl,HT0⟩,rfl⟩:=hrel
      by_cases hil:i<kl.length
      ·have pk:=HKc.out i hil
       have HT1:Hid ((kl.take (i+1)).any (fun x=>decide (K=x))=(t0 || decide (K=kl[i]))):=by show _ = _;rw[Yc9 hil,HT0.out]
       generalize kl[i]=Y at pk HT1
       clear HT0
       cases t0 with
       | true=>
        go_wp2
        go_roundw
        case rel=>exact⟨i+1,by go_num,by omega,⟨true,rfl,by show _ = _;rw[HT1.out];rfl⟩,by first|rfl|trivial⟩
        case measure=>simp[intOf];omega
       | false=>
        by_cases hKY:K=Y
        ·have hd:decide (K=Y)=true:=by simpa using hKY
         have HT2:Hid (true=(kl.take (i+1)).any (fun x=>decide (K=x))):=by show _ = _;rw[HT1.out,hd];rfl
         clear HT1 hd
         go_wp2
         go_roundw
         case rel=>exact⟨i+1,by go_num,by omega,⟨true,rfl,HT2⟩,by first|rfl|trivial⟩
         case measure=>simp[intOf];omega
        ·have hd:decide (K=Y)=false:=by simpa using hKY
         have hq3:(K == Y)=false:=by simpa using hKY
         have HT2:Hid (false=(kl.take (i+1)).any (fun x=>decide (K=x))):=by show _ = _;rw[HT1.out,hd];rfl
         clear HT1
         go_wp2
         go_roundw
         case rel=>exact⟨i+1,by go_num,by omega,⟨false,rfl,HT2⟩,by first|rfl|trivial⟩
         case measure=>simp[intOf];omega
      ·have hii:i=kl.length:=by omega
       have HT2:Hid (allowed kl K=t0):=by
        show _ = _
        rw[HB.out,HT0.out,hii,List.take_length]
       clear HT0 HB hii
       cases t0 with
       | true=>
        have cT:=HT.out HT2.out
        clear HT HF HT2
        go_wp2_with fail
        refine cT.mono ?_
        rintro e W1 ⟨rfl,hI1⟩
        have HI1:=hid hI1
        clear hI1 cT
        go_wp2
        go_roundw
        case rel=>exact⟨k+1,by go_num,by omega,HI1⟩
        case measure=>simp[intOf];omega
       | false=>
        have HI1:Hid (Inv (w2.heap.size+1) (k+1) W0):=HF.out HT2.out
        clear HT HF HT2
        go_wp2
        go_roundw
        case rel=>exact⟨k+1,by go_num,by omega,HI1⟩
        case measure=>simp[intOf];omega
   ·have hkk:k=ops.length:=by omega
    subst hkk
    have pl:=HKc.out (kl.length-1) (by omega)
    obtain⟨Y,hY,hF⟩:∃ Y,kl[kl.length-1]'(by omega)=Y/\((Y=10/\Calls Tryz.prog 42 #[.pointer (some ⟨w2.heap.size+1,0,none⟩),.int .i64 (-1),.int .i64 (-1)] W0 fun e W'=>e=.returned (.bool true)/\Below w.heap.size w W')\/(Y≠10/\kl.length=1)\/(Y≠10/\kl.length≠1/\Calls Tryz.prog 43 #[.pointer (some ⟨w2.heap.size+1,0,none⟩)] W0 fun e W'=>e=.returned (.bool true)/\Below w.heap.size w W')):=by
     refine⟨_,rfl,?_⟩
     rcases hFin with ⟨h10,hc⟩|⟨h10,h1⟩|⟨h10,h1,hc⟩
     ·exact .inl ⟨h10,hc _ _ HK.out⟩
     ·exact .inr (.inl ⟨h10,h1⟩)
     ·exact .inr (.inr ⟨h10,h1,hc _ _ HK.out⟩)
    rw[hY] at pl
    clear hFin HKc hkc hOI hY HIn HSt HSk HK HI
    generalize kl.length=L at *
    obtain⟨m,rfl⟩:∃ m,L=m+1:=⟨L-1,by omega⟩
    rw[Nat.add_sub_cancel] at pl
    rcases hF with ⟨rfl,cR⟩|⟨h10,h1⟩|⟨h10,h1,cR⟩
    ·go_wp2_with fail
     refine cR.mono ?_
     rintro e W1 ⟨rfl,hB9⟩
     go_wp2
     go_ret
     exact⟨rfl,hB9⟩
    ·have h0:m=0:=by omega
     subst h0
     go_wp2
     go_ret
     exact⟨rfl,HBW.out⟩
    ·have h0:m≠0:=by omega
     go_wp2_with fail
     refine cR.mono ?_
     rintro e W1 ⟨rfl,hB9⟩
     go_wp2
     go_ret
     exact⟨rfl,hB9⟩
 ·rw[show decide (ops.length+bytesOf ops<=8192)=false by simpa using hs] at cS
  go_enter Tryz.func17,Tryz.ntmps17
  go_wp2_with (go_at_call 39;refine cS.mono ?_;rintro e w1 ⟨rfl,hB1⟩)
  go_ret
  exact⟨rfl,hB1⟩
def Live(W:World)(F:Nat->Prop)(x n:Nat)(D:M.Dk)(l:List M.Pk):Prop:=∃ d s k b qY hv sv lv,Zde W x d s k b qY n hv sv lv D l/\∀ j,F j↔Zpr x d s k hv sv lv j
def Gone(W:World)(F:Nat->Prop)(x n:Nat)(Q:List M.Pk->Prop):Prop:=∃ d s0 hv sv lv D,D.dead=true/\Dn W x d n s0 hv sv lv D Q/\∀ j,F j↔Ztf x d hv sv lv j
abbrev Ycg(t:TypeId):Prop:=t=88\/t=140\/t=196\/t=103\/t=131\/t=146
theorem Live.ty{W:World}{F:Nat->Prop}{x n:Nat}{D:M.Dk}{l:List M.Pk}(h:Live W F x n D l){j:Nat}(hj:F j):∃ c t,W.heap[j]? = some (.cells c t (0,0))/\Ycg t:=by
 obtain⟨d,s,k,b,qY,hv,sv,lv,h1,h2⟩:=h
 rcases(h2 j).1 hj with rfl|rfl|rfl|hj
 ·exact⟨_,_,h1.sess,.inl rfl⟩
 ·exact⟨_,_,h1.store,.inr (.inl rfl)⟩
 ·exact⟨_,_,h1.known,.inr (.inr (.inl rfl))⟩
 ·obtain⟨c,t,e,ht⟩:=h1.disk.ty hj
  refine⟨c,t,e,?_⟩
  rcases ht with e|e|e
  ·exact .inr (.inr (.inr (.inl e)))
  ·exact .inr (.inr (.inr (.inr (.inl e))))
  ·exact .inr (.inr (.inr (.inr (.inr e))))
theorem Gone.ty{W:World}{F:Nat->Prop}{x n:Nat}{Q:List M.Pk->Prop}(h:Gone W F x n Q){j:Nat}(hj:F j):∃ c t,W.heap[j]? = some (.cells c t (0,0))/\Ycg t:=by
 obtain⟨d,s0,hv,sv,lv,D,h0,h1,h2⟩:=h
 rcases(h2 j).1 hj with rfl|hj
 ·exact⟨_,_,h1.sess,.inl rfl⟩
 ·obtain⟨c,t,e,ht⟩:=h1.disk.ty hj
  refine⟨c,t,e,?_⟩
  rcases ht with e|e|e
  ·exact .inr (.inr (.inr (.inl e)))
  ·exact .inr (.inr (.inr (.inr (.inl e))))
  ·exact .inr (.inr (.inr (.inr (.inr e))))
theorem Live.chg{W W':World}{F G:Nat->Prop}{x n:Nat}{D:M.Dk}{l:List M.Pk}(h:Live W F x n D l)(hc:Chg G W W')(ht:Zbm G W)(hu:Ztd G W)(hh:∀ j,G j->1<j)(hd:∀ j,F j->¬ G j):Live W' F x n D l:=by
 obtain⟨d,s,k,b,qY,hv,sv,lv,h1,h3⟩:=h
 have hd':∀ j,Zpr x d s k hv sv lv j->¬ G j:=fun j hj=>hd j ((h3 j).2 hj)
 refine⟨d,s,k,b,qY,hv,sv,lv,⟨h1.ready.chg hc hh,h1.sess.chg hc (hd' x (.inl rfl)),?_,?_,h1.disk.chg hc hu (fun j hj=>hd' j (.inr (.inr (.inr hj)))),h1.set.chg hc ht (fun p hp=>(h1.tog.back p hp).few),h1.n1,h1.n2,h1.ho,h1.rest,h1.left,h1.tog,h1.room,h1.high⟩,h3⟩
 ·exact(hc.block s (ges.1 h1.store).1 (hd' s (.inr (.inl rfl)))).trans h1.store
 ·exact(hc.block k (ges.1 h1.known).1 (hd' k (.inr (.inr (.inl rfl))))).trans h1.known
theorem Gone.chg{W W':World}{F G:Nat->Prop}{x n:Nat}{Q:List M.Pk->Prop}(h:Gone W F x n Q)(hc:Chg G W W')(hu:Ztd G W)(hh:∀ j,G j->1<j)(hd:∀ j,F j->¬ G j):Gone W' F x n Q:=by
 obtain⟨d,s0,hv,sv,lv,D,h0,h1,h3⟩:=h
 have hd':∀ j,Ztf x d hv sv lv j->¬ G j:=fun j hj=>hd j ((h3 j).2 hj)
 exact⟨d,s0,hv,sv,lv,D,h0,{ h1 with ready:=h1.ready.chg hc hh,sess:=h1.sess.chg hc (hd' x (.inl rfl)),disk:=h1.disk.chg hc hu (fun j hj=>hd' j (.inr hj)) },h3⟩
theorem Live.below{W W':World}{F:Nat->Prop}{x n:Nat}{D:M.Dk}{l:List M.Pk}(h:Live W F x n D l)(hb:Below W.heap.size W W'):Live W' F x n D l:=by
 obtain⟨d,s,k,b,qY,hv,sv,lv,h1,h3⟩:=h
 exact⟨d,s,k,b,qY,hv,sv,lv,h1.below hb,h3⟩
theorem Gone.below{W W':World}{F:Nat->Prop}{x n:Nat}{Q:List M.Pk->Prop}(h:Gone W F x n Q)(hb:Below W.heap.size W W'):Gone W' F x n Q:=by
 obtain⟨d,s0,hv,sv,lv,D,h0,h1,h3⟩:=h
 exact⟨d,s0,hv,sv,lv,D,h0,h1.below hb,h3⟩
def Ztp(K:Prop)(W:World)(F:Nat->Prop)(x n:Nat)(qQ orl:List M.Pk)(qK:Bool):Prop:=(qK=false/\∃ D,(K->M.Zfl D)/\Live W F x n D qQ)\/(¬ K/\Gone W F x n (fun m=>m=qQ\/(qK=true/\m=orl)))
theorem Ztp.ty{K:Prop}{W:World}{F:Nat->Prop}{x n:Nat}{qQ orl:List M.Pk}{qK:Bool}(h:Ztp K W F x n qQ orl qK){j:Nat}(hj:F j):∃ c t,W.heap[j]? = some (.cells c t (0,0))/\Ycg t:=by
 rcases h with ⟨_,D,_,h⟩|⟨_,h⟩
 ·exact h.ty hj
 ·exact h.ty hj
theorem Ztp.off{K:Prop}{W:World}{F:Nat->Prop}{x n:Nat}{qQ orl:List M.Pk}{qK:Bool}(h:Ztp K W F x n qQ orl qK){j:Nat}{c:Array Value}{t:TypeId}{f:Nat × Nat}(hj:W.heap[j]? = some (.cells c t f))(ht:¬ Ycg t):¬ F j:=fun e=>by
 obtain⟨c',t',e',ht'⟩:=h.ty e
 rw[hj] at e'
 cases e'
 exact ht ht'
theorem Ztp.below{K:Prop}{W W':World}{F:Nat->Prop}{x n:Nat}{qQ orl:List M.Pk}{qK:Bool}(h:Ztp K W F x n qQ orl qK)(hb:Below W.heap.size W W'):Ztp K W' F x n qQ orl qK:=by
 rcases h with ⟨h0,D,hk,h⟩|⟨hk,h⟩
 ·exact .inl ⟨h0,D,hk,h.below hb⟩
 ·exact .inr ⟨hk,h.below hb⟩
theorem Ztp.chg{K:Prop}{W W':World}{F G:Nat->Prop}{x n:Nat}{qQ orl:List M.Pk}{qK:Bool}(h:Ztp K W F x n qQ orl qK)(hc:Chg G W W')(ht:Zbm G W)(hu:Ztd G W)(hh:∀ j,G j->1<j)(hd:∀ j,F j->¬ G j):Ztp K W' F x n qQ orl qK:=by
 rcases h with ⟨h0,D,hk,h⟩|⟨hk,h⟩
 ·exact .inl ⟨h0,D,hk,h.chg hc ht hu hh hd⟩
 ·exact .inr ⟨hk,h.chg hc hu hh hd⟩
structure Lr (K:Prop) (W:World) (B x n:Nat) (F:Nat->Prop) (tv ov:Value) (qQ orl:List M.Pk) (qK:Bool):Prop where
 se:Ztp K W F x n qQ orl qK
 tp:Zbc W tv qQ
 tt:Zjt W tv qQ
 op:Zbc W ov orl
 ot:Zjt W ov orl
 tog:M.Tog qQ
 room:(M.Zbn qQ:Int)<=24*((n:Int)-8)
 togo:M.Tog orl
 roomo:(M.Zbn orl:Int)<=24*((n:Int)-8)
 n1:16<=n
 n2:n<=256
 FB:∀ j,F j->B<=j
theorem Lr.below{K:Prop}{W W':World}{B x n:Nat}{F:Nat->Prop}{tv ov:Value}{qQ orl:List M.Pk}{qK:Bool}(h:Lr K W B x n F tv ov qQ orl qK)(hb:Below W.heap.size W W'):Lr K W' B x n F tv ov qQ orl qK:=
 { h with se:=h.se.below hb,tp:=h.tp.below hb,tt:=h.tt.below hb,op:=h.op.below hb,ot:=h.ot.below hb }
theorem Lr.chg{K:Prop}{W W':World}{B x n:Nat}{F G:Nat->Prop}{tv ov:Value}{qQ orl:List M.Pk}{qK:Bool}(h:Lr K W B x n F tv ov qQ orl qK)(hc:Chg G W W')(ht:Zbm G W)(hu:Ztd G W)(hh:∀ j,G j->1<j)(hd:∀ j,F j->¬ G j):Lr K W' B x n F tv ov qQ orl qK:=
 { h with
   se:=h.se.chg hc ht hu hh hd
   tp:=h.tp.chg h.tt hc ht (fun p hp=>(h.tog.back p hp).few)
   tt:=h.tt.chg hc ht
   op:=h.op.chg h.ot hc ht (fun p hp=>(h.togo.back p hp).few)
   ot:=h.ot.chg hc ht }
def wC(x n:Nat)(tv ov:Value)(qK:Bool)(hv:Value):Array Value:=#[.pointer (some ⟨x,0,none⟩),.int .i64 n,tv,ov,.bool qK,hv]
structure Lw (K:Prop) (W:World) (B wb x n:Nat) (F:Nat->Prop) (tv ov hv:Value) (qQ orl:List M.Pk) (qK:Bool) (qJ:List ByteArray):Prop extends Lr K W B x n F tv ov qQ orl qK where
 blk:W.heap[wb]? = some (.cells (wC x n tv ov qK hv) 79 (0,0))
 own:W.ownsRow B 9 1 hv qJ.length (qJ.map Value.string)
 hz:qJ.length=0->hv=.slice none 0 0
 wB:B<=wb
 hi:1<B
theorem Lw.below{K:Prop}{W W':World}{B wb x n:Nat}{F:Nat->Prop}{tv ov hv:Value}{qQ orl:List M.Pk}{qK:Bool}{qJ:List ByteArray}(h:Lw K W B wb x n F tv ov hv qQ orl qK qJ)(hb:Below W.heap.size W W'):Lw K W' B wb x n F tv ov hv qQ orl qK qJ:=
 { toLr:=h.toLr.below hb
   blk:=(hb.block _ (ges.1 h.blk).1).trans h.blk
   own:=own_below h.own hb
   hz:=h.hz
   wB:=h.wB
   hi:=h.hi }
theorem Lw.lt{K:Prop}{W:World}{B wb x n:Nat}{F:Nat->Prop}{tv ov hv:Value}{qQ orl:List M.Pk}{qK:Bool}{qJ:List ByteArray}(h:Lw K W B wb x n F tv ov hv qQ orl qK qJ):wb<W.heap.size:=(ges.1 h.blk).1
theorem Lw.cells{K:Prop}{W:World}{B wb x n:Nat}{F:Nat->Prop}{tv ov hv:Value}{qQ orl:List M.Pk}{qK:Bool}{qJ:List ByteArray}(h:Lw K W B wb x n F tv ov hv qQ orl qK qJ):
 W.cell? ⟨wb,0,none⟩=some (.pointer (some ⟨x,0,none⟩))/\W.cell? ⟨wb,1,none⟩=some (.int .i64 n)/\W.cell? ⟨wb,2,none⟩=some tv/\W.cell? ⟨wb,3,none⟩=some ov/\W.cell? ⟨wb,4,none⟩=some (.bool qK)/\W.cell? ⟨wb,5,none⟩=some hv/\∀ o,W.frozen? ⟨wb,o,none⟩=false:=
 ⟨(cell_of_row W _ 0 _ _ (0,0) h.blk).trans rfl,(cell_of_row W _ 1 _ _ (0,0) h.blk).trans rfl,(cell_of_row W _ 2 _ _ (0,0) h.blk).trans rfl,(cell_of_row W _ 3 _ _ (0,0) h.blk).trans rfl,(cell_of_row W _ 4 _ _ (0,0) h.blk).trans rfl,(cell_of_row W _ 5 _ _ (0,0) h.blk).trans rfl,fun o=>frozen_of_row W _ o _ _ h.blk⟩
theorem Lr.wb{K:Prop}{W:World}{B wb x n:Nat}{F:Nat->Prop}{tv ov:Value}{qQ orl:List M.Pk}{qK:Bool}{c:Array Value}(h:Lr K W B x n F tv ov qQ orl qK)(hb:W.heap[wb]? = some (.cells c 79 (0,0)))(h0:c[0]? = some (.pointer (some ⟨x,0,none⟩)))(hhi:1<wb)(o:Nat)(v:Value):Lr K (W.setCell ⟨wb,o,none⟩ v) B x n F tv ov qQ orl qK:=by
 have hc:Chg (fun j=>j=wb) W (W.setCell ⟨wb,o,none⟩ v):=Chg.grown (Zax W wb o v) (fun i e _=>(Option.some.inj e).symm)
 have hce:W.cell? ⟨wb,0,none⟩=some (.pointer (some ⟨x,0,none⟩)):=(cell_of_row W _ 0 _ _ (0,0) hb).trans h0
 refine h.chg hc (Zbm.one hb (fun s e=>?_) (fun a m p e=>?_)) (Zjn hb (by decide)) (fun j e=>by rw[e];exact hhi) (fun j hj e=>?_)
 ·rw[h0] at e;cases e
 ·rw[h0] at e;cases e
 ·subst e
  exact h.se.off hb (by decide) hj
theorem Live.lost{W:World}{F:Nat->Prop}{x n:Nat}{D:M.Dk}{l:List M.Pk}(h:Live W F x n D l):Calls Tryz.prog 32 #[.pointer (some ⟨x,0,none⟩)] W fun e w'=>e=.returned (.bool false)/\W=w':=by
 obtain⟨d,s,k,b,qY,hv,sv,lv,h1,h2⟩:=h
 refine(Zvl x d _ hv sv lv D W h1.sess h1.disk).mono ?_
 rintro e w' ⟨rfl,e2⟩
 exact⟨by rw[h1.rest.alive],e2.symm⟩
theorem Gone.lost{W:World}{F:Nat->Prop}{x n:Nat}{Q:List M.Pk->Prop}(h:Gone W F x n Q):Calls Tryz.prog 32 #[.pointer (some ⟨x,0,none⟩)] W fun e w'=>e=.returned (.bool true)/\W=w':=by
 obtain⟨d,s0,hv,sv,lv,D,h0,h1,h2⟩:=h
 refine(Zvl x d _ hv sv lv D W h1.sess h1.disk).mono ?_
 rintro e w' ⟨rfl,e2⟩
 exact⟨by rw[h0],e2.symm⟩
theorem Ztp.lost{K:Prop}{W:World}{F:Nat->Prop}{x n:Nat}{qQ orl:List M.Pk}{qK:Bool}(h:Ztp K W F x n qQ orl qK):∃ b,Calls Tryz.prog 32 #[.pointer (some ⟨x,0,none⟩)] W fun e w'=>e=.returned (.bool b)/\W=w':=by
 rcases h with ⟨_,D,_,h⟩|⟨_,h⟩
 ·exact⟨false,h.lost⟩
 ·exact⟨true,h.lost⟩
theorem Lw.more{K:Prop}{W:World}{B wb x n:Nat}{F:Nat->Prop}{tv ov hv:Value}{qQ orl:List M.Pk}{qK:Bool}{qJ:List ByteArray}(h:Lw K W B wb x n F tv ov hv qQ orl qK qJ)(S:ByteArray)(ty:TypeId)(hn:qJ.length<=1000000):
 ∃ a c w',(Builtin.append_ #[43,43] ty #[hv,.slice (some ⟨W.heap.size,0,none⟩) 1 1]).run Tryz.prog (W.alloc (.cells #[.string S] 9)).drew=.ok (.slice a (qJ.length+1) c) w'/\
  w'.heap[wb]? = some (.cells (wC x n tv ov qK hv) 79 (0,0))/\
  Lw K (w'.setCell ⟨wb,5,none⟩ (.slice a (qJ.length+1) c)) B wb x n F tv ov (.slice a (qJ.length+1) c) qQ orl qK (qJ++[S])/\Below B W (w'.setCell ⟨wb,5,none⟩ (.slice a (qJ.length+1) c)):=by
 obtain⟨i0,hi0,hz0,hz1,hz2⟩:=info_parts Zco
 obtain⟨A,hA⟩:∃ A,A=(W.alloc (.cells #[.string S] 9)).drew:=⟨_,rfl⟩
 have hBA:Below W.heap.size W A:=by rw[hA];exact bt ((Below.refl _ W).alloc ler _) (Zae _ 1)
 have hc:A.cell? ⟨W.heap.size,0,none⟩=some (.string S):=by rw[hA];exact Zbk W [.string S] 9 0 _ rfl
 have h1:=h.below hBA
 rw[<-hA]
 have hsA:=h1.lt
 have hBW:B<=W.heap.size:=by have:=h.lt;have:=h.wB;omega
 obtain⟨v',w',hrun,r1,r2,_⟩:=run_append_own (P:=Tryz.prog) A B 43 ty 9 i0 (.string ⟨#[]⟩) 1 16 Tryz.underlying43 hi0 hz0 hz1 hz2 rfl (by decide) hv qJ.length (qJ.map Value.string) h1.own ⟨W.heap.size,0,none⟩ 1 1 [.string S] rfl (fun j y hy=>by
  match j,hy with
  | 0,hy=>cases hy;rw[Addr.add_lit];exact hc) (fun u hu=>by simp only[List.mem_singleton] at hu;subst hu;rfl) (by unfold maxLen;omega) (by omega) (by have:=hBA.size;omega)
 obtain⟨a,c,e⟩:=Zac r1
 subst e
 have hcA:Chg (fun k=>hv.ownBlock=some k) A w':=Chg.grown r2 (fun k e _=>e)
 have hstr:∀ j,hv.ownBlock=some j->∃ cu f,A.heap[j]? = some (.cells cu 9 f):=fun j hj=>by
  by_cases hm:qJ.length=0
  ·rw[h.hz hm] at hj;cases hj
  ·obtain⟨g,cap,cur,e,hg',_,hb'⟩:=Zc8 h1.own (by omega)
   rw[hb'] at hj
   cases hj
   exact⟨_,_,hg'⟩
 have hnt:Zbm (fun k=>hv.ownBlock=some k) A:=by
  by_cases hm:qJ.length=0
  ·intro j hj
   rw[h.hz hm] at hj
   cases hj
  ·refine Zbm.strs h1.own (fun u hu=>?_) (by omega)
   obtain⟨s,_,rfl⟩:=List.mem_map.1 hu
   exact⟨s,rfl⟩
 have hoff:∀ j {cu:Array Value} {t:TypeId} {f:Nat × Nat},A.heap[j]? = some (.cells cu t f)->t≠9->hv.ownBlock≠some j:=fun j cu t f hj ht e=>by
  obtain⟨cu2,f2,e2⟩:=hstr j e
  exact Zfx hj e2 ht rfl
 have e1:w'.heap[wb]? = some (.cells (wC x n tv ov qK hv) 79 (0,0)):=(r2.block _ hsA (fun e=>hoff wb h1.blk (by decide) e.symm)).trans h1.blk
 have hLr:Lr K w' B x n F tv ov qQ orl qK:=h1.toLr.chg hcA hnt (fun j hj cur fz e=>by
  obtain⟨cu2,f2,e2⟩:=hstr j hj
  rw[e] at e2
  cases e2) (fun j hj=>by have:=(h1.own.lt j hj).1;have:=h.hi;omega) (fun j hj e=>by
  obtain⟨cu2,f2,e2⟩:=hstr j e
  exact h1.se.off e2 (by decide) hj)
 have hwhi:1<wb:=by have:=h.hi;have:=h.wB;omega
 have hcW:Chg (fun j=>j=wb) w' (w'.setCell ⟨wb,5,none⟩ (.slice a (qJ.length+1) c)):=Chg.grown (Zax w' wb 5 _) (fun i e _=>(Option.some.inj e).symm)
 refine⟨a,c,w',hrun,e1,⟨hLr.wb e1 rfl hwhi 5 _,heap_setCell_same w' _ 5 _ _ _ e1,?_,fun e=>by simp at e,h.wB,h.hi⟩,?_⟩
 ·have:=hcW.own r1 (fun g hg e=>by
   obtain⟨g2,cap,cur,e3,hg',_,hb'⟩:=Zc8 r1 (by omega)
   rw[hb'] at hg
   cases hg
   exact Zfx hg' e1 (by decide) e)
  rw[List.map_append,List.length_append]
  exact this
 ·refine⟨hcW.os.trans (r2.os.trans hBA.os),hcW.tape.trans (r2.tape.trans hBA.tape),hcW.output.trans (r2.output.trans hBA.output),Nat.le_trans hBA.size (Nat.le_trans r2.size hcW.size),fun k hk=>?_⟩
  have hkw:k≠wb:=by have:=h.wB;omega
  exact(hcW.block k (by have:=r2.size;have:=hBA.size;omega) hkw).trans ((r2.block k (by have:=hBA.size;omega) (fun e=>by have:=(h1.own.lt _ e.symm).1;omega)).trans (hBA.block k (by omega)))
def Zh9(K:Prop)(W:World)(B wb x n:Nat)(qJ:List ByteArray)(e:Ending)(w':World):Prop:=e=.returned (.bool true)/\Below B W w'/\∃ F tv ov hv qQ orl qK,Lw K w' B wb x n F tv ov hv qQ orl qK qJ
theorem Z25{K:Prop}{w:World}{B wb x n:Nat}{F:Nat->Prop}{tv ov hv:Value}{qQ orl:List M.Pk}{qK:Bool}{qJ:List ByteArray}(h:Lw K w B wb x n F tv ov hv qQ orl qK qJ)(A B':Int)(S:ByteArray)(hn:qJ.length<=1000000):
 Calls Tryz.prog 41 #[.pointer (some ⟨wb,0,none⟩),.agg #[.int .i64 1,.int .i64 A,.int .i64 B',.string S]] w (Zh9 K w B wb x n (qJ++[S])):=by
 generalize hA:w.alloc (.cells #[.int .i64 1,.int .i64 A,.int .i64 B',.string S] 81)=A0
 have hB0:Below w.heap.size w A0:=by rw[<-hA];exact(Below.refl _ w).alloc ler _
 have hb0:A0.heap[w.heap.size]? = some (.cells #[.int .i64 1,.int .i64 A,.int .i64 B',.string S] 81 (0,0)):=by rw[<-hA];exact heap_alloc_new w _
 have o0:A0.cell? ⟨w.heap.size,0,none⟩=some (.int .i64 1):=(cell_of_row A0 _ 0 _ _ (0,0) hb0).trans rfl
 have o3:A0.cell? ⟨w.heap.size,3,none⟩=some (.string S):=(cell_of_row A0 _ 3 _ _ (0,0) hb0).trans rfl
 have h0:=h.below hB0
 obtain⟨c0,-,-,-,-,c5,-⟩:=h0.cells
 obtain⟨lb,cL⟩:=h0.se.lost
 obtain⟨a1,e1,w1,hr1,hk1,hq1,hB1⟩:=h0.more S 43 hn
 have d1:w1.cell? ⟨wb,5,none⟩=some hv:=(cell_of_row w1 _ 5 _ _ (0,0) hk1).trans rfl
 have f1:w1.frozen? ⟨wb,5,none⟩=false:=frozen_of_row w1 _ _ _ _ hk1
 have hlt:=h0.lt
 have c5':(A0.alloc (.cells #[.string S] 9)).cell? ⟨wb,5,none⟩=some hv:=(World.cell?_alloc_past _ _ _ hlt).trans c5
 have hBw:B<=w.heap.size:=by have:=h.lt;have:=h.wB;omega
 obtain⟨ah,ch,eh⟩:=Zac h0.own
 subst eh
 have HR:=hid hr1
 have HQ:=hid hq1
 have HB:Hid (Below B w (w1.setCell ⟨wb,5,none⟩ (.slice a1 (qJ.length+1) e1))):=(hB0.mono hBw).trans hB1
 clear hb0 hr1 hq1 hk1 h h0 hB0 hB1
 go_enter Tryz.func41,Tryz.ntmps41
 go_wp2_with (first
  | (go_at_call 32;refine cL.mono ?_;rintro e w' ⟨rfl,rfl⟩)
  | go_in)
 go_region_law (refine Zen rfl (.tmp 33) (.tmp 36) 43 rfl _ _ _ _ (by simp[Act.eval]) (by simp[Act.eval]) HR.out ?_)
 all_goals
  go_wp2
  go_ret
  exact⟨rfl,HB.out,_,_,_,_,_,_,_,HQ.out⟩
theorem Zyb{K:Prop}{w:World}{B wb x n:Nat}{F:Nat->Prop}{tv ov hv:Value}{qQ orl:List M.Pk}{qK:Bool}{qJ:List ByteArray}(h:Lw K w B wb x n F tv ov hv qQ orl qK qJ)(A B':Int)(S:ByteArray):
 Calls Tryz.prog 41 #[.pointer (some ⟨wb,0,none⟩),.agg #[.int .i64 2,.int .i64 A,.int .i64 B',.string S]] w (Zh9 K w B wb x n []):=by
 generalize hA:w.alloc (.cells #[.int .i64 2,.int .i64 A,.int .i64 B',.string S] 81)=A0
 have hB0:Below w.heap.size w A0:=by rw[<-hA];exact(Below.refl _ w).alloc ler _
 have hb0:A0.heap[w.heap.size]? = some (.cells #[.int .i64 2,.int .i64 A,.int .i64 B',.string S] 81 (0,0)):=by rw[<-hA];exact heap_alloc_new w _
 have o0:A0.cell? ⟨w.heap.size,0,none⟩=some (.int .i64 2):=(cell_of_row A0 _ 0 _ _ (0,0) hb0).trans rfl
 have h0:=h.below hB0
 obtain⟨c0,-,-,-,-,c5,f5⟩:=h0.cells
 obtain⟨lb,cL⟩:=h0.se.lost
 have hBw:B<=w.heap.size:=by have:=h.lt;have:=h.wB;omega
 have hwhi:1<wb:=by have:=h.hi;have:=h.wB;omega
 have HQ:Hid (Lw K (A0.setCell ⟨wb,5,none⟩ (.slice none 0 0)) B wb x n F tv ov (.slice none 0 0) qQ orl qK []):=
  ⟨h0.toLr.wb h0.blk rfl hwhi 5 _,heap_setCell_same A0 _ 5 _ _ _ h0.blk,World.ownsRow_nil _ _ _ _,fun _=>rfl,h.wB,h.hi⟩
 have HB:Hid (Below B w (A0.setCell ⟨wb,5,none⟩ (.slice none 0 0))):=(hB0.mono hBw).setCell h.wB _
 clear hb0 h h0 hB0
 go_enter Tryz.func41,Tryz.ntmps41
 go_wp2_with (first
  | (go_at_call 32;refine cL.mono ?_;rintro e w' ⟨rfl,rfl⟩)
  | go_in)
 go_ret
 exact⟨rfl,HB.out,_,_,_,_,_,_,_,HQ.out⟩
end Go.Proofs.YtgnfknjopafngaaGreatDoor
