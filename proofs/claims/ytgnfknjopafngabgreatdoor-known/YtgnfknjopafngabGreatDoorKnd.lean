import Derived.Laws.OwnMore
import Derived.Test.YtgnfknjopafngabGreatDoorKnc
import Derived.RangeFuncNested
import Derived.RangeFuncBound
import Derived.RangeFuncCalls
import Derived.RangeFuncLeaves
namespace Go.Proofs.YtgnfknjopafngabGreatDoor
namespace M
def pad(l:List UInt8):List UInt8:=l.take 64++List.replicate (64-l.length) 0
theorem pad_len(l:List UInt8):(pad l).length=64:=by
 unfold pad
 rw[List.length_append,List.length_take,List.length_replicate]
 omega
structure Dk where
 held:List (List UInt8)
 seen:List (List UInt8)
 late:List (Nat × List UInt8)
 left:Int
 dead:Bool
def Dk.tick(d:Dk):Dk:={ d with dead:=d.dead || d.left == 0,left:=if 0<d.left then d.left-1 else d.left }
def Dk.write(d:Dk)(n:Nat)(x:List UInt8):Dk:=
 if (d.dead || d.left == 0)=true then { d with seen:=d.seen.set n x,dead:=true,left:=if 0<d.left then d.left-1 else d.left }
 else { d with seen:=d.seen.set n x,dead:=false,left:=if 0<d.left then d.left-1 else d.left,late:=d.late++[(n,x)] }
def putAll(l:List (Nat × List UInt8))(h:List (List UInt8)):List (List UInt8):=l.foldl (fun h w=>h.set w.1 w.2) h
def Dk.sync(d:Dk):Dk:=
 if (d.dead || d.left == 0)=true then { d with dead:=true,left:=if 0<d.left then d.left-1 else d.left }
 else { d with held:=putAll d.late d.held,late:=[],dead:=false,left:=if 0<d.left then d.left-1 else d.left }
def putSome(sel:Nat->Bool):Nat->List (Nat × List UInt8)->List (List UInt8)->List (List UInt8)
 | _,[],h=>h
 | i,w :: r,h=>putSome sel (i+1) r (if sel i=true then h.set w.1 w.2 else h)
theorem putAll_len:∀ (l:List (Nat × List UInt8)) (h:List (List UInt8)),(putAll l h).length=h.length
 | [],h=>rfl
 | w :: r,h=>by
  unfold putAll
  rw[List.foldl_cons]
  have:=putAll_len r (h.set w.1 w.2)
  unfold putAll at this
  rw[this,List.length_set]
theorem putSome_len(sel:Nat->Bool):∀ (l:List (Nat × List UInt8)) (i:Nat) (h:List (List UInt8)),(putSome sel i l h).length=h.length
 | [],i,h=>rfl
 | w :: r,i,h=>by
  unfold putSome
  rw[putSome_len sel r]
  split
  ·rw[List.length_set]
  ·rfl
theorem putSome_all:∀ (l:List (Nat × List UInt8)) (i:Nat) (h:List (List UInt8)),putSome (fun _=>true) i l h=putAll l h
 | [],i,h=>rfl
 | w :: r,i,h=>by
  unfold putSome putAll
  rw[if_pos rfl,List.foldl_cons,putSome_all r]
  rfl
theorem putSome_off(sel:Nat->Bool):∀ (l:List (Nat × List UInt8)) (i:Nat) (h:List (List UInt8)) (j:Nat),(∀ w∈l,w.1≠j)->(putSome sel i l h)[j]? = h[j]?
 | [],i,h,j,_=>rfl
 | w :: r,i,h,j,hj=>by
  unfold putSome
  rw[putSome_off sel r _ _ j (fun v hv=>hj v (by simp[hv]))]
  split
  ·rw[List.getElem?_set_ne (hj w (by simp))]
  ·rfl
theorem putAll_snoc(l:List (Nat × List UInt8))(w:Nat × List UInt8)(h:List (List UInt8)):putAll (l++[w]) h=(putAll l h).set w.1 w.2:=by
 unfold putAll
 rw[List.foldl_append]
 rfl
theorem putSome_size(sel:Nat->Bool)(n:Nat):∀ (l:List (Nat × List UInt8)) (i:Nat) (h:List (List UInt8)),(∀ w∈l,w.2.length=n)->(∀ x∈h,x.length=n)->∀ x∈putSome sel i l h,x.length=n
 | [],i,h,_,hh=>hh
 | w :: r,i,h,hw,hh=>by
  unfold putSome
  refine putSome_size sel n r _ _ (fun v hv=>hw v (by simp[hv])) ?_
  split
  ·intro x hx
   rcases List.mem_or_eq_of_mem_set hx with h1|h1
   ·exact hh x h1
   ·rw[h1];exact hw w (by simp)
  ·exact hh
def chunk(t:List UInt8)(i:Nat):List UInt8:=pad (t.drop (64*i))
def secN(n:Nat):Nat:=(n+63) / 64
theorem chunks_take(t:List UInt8):∀ (k:Nat),k*64<=t.length+63->((List.range k).flatMap (chunk t)).take t.length=t.take (64*k)/\((List.range k).flatMap (chunk t)).length=64*k
 | 0,_=>by simp
 | k+1,hk=>by
  obtain⟨h1,h2⟩:=chunks_take t k (by omega)
  have e:(List.range (k+1)).flatMap (chunk t)=(List.range k).flatMap (chunk t)++chunk t k:=by
   rw[List.range_succ,List.flatMap_append]
   simp
  have hl:(chunk t k).length=64:=pad_len _
  rw[e]
  refine⟨?_,by rw[List.length_append,h2,hl];omega⟩
  rw[List.take_append,h1,h2]
  rw[show 64*(k+1)=64*k+64 by omega,List.take_add]
  congr 1
  unfold chunk pad
  rw[List.take_append,List.take_take,List.length_take,List.length_drop]
  by_cases hc:64*k+64<=t.length
  ·rw[show 64-(t.length-64*k)=0 by omega,List.replicate_zero,List.take_nil,List.append_nil]
   congr 1
   omega
  ·rw[show t.length-64*k-min 64 (t.length-64*k)=0 by omega,List.take_zero,List.append_nil,List.take_of_length_le (by rw[List.length_drop];omega),List.take_of_length_le (by rw[List.length_drop];omega)]
theorem chunks_all(t:List UInt8):((List.range (secN t.length)).flatMap (chunk t)).take t.length=t:=by
 have h1:secN t.length*64<=t.length+63:=by unfold secN;omega
 rw[(chunks_take t (secN t.length) h1).1,List.take_of_length_le (by unfold secN;omega)]
def dHead(half size:Nat):List UInt8:=[UInt8.ofNat half,UInt8.ofNat (size / 256),UInt8.ofNat size]
def headIs(x:List UInt8)(half size:Nat):Prop:=∃ a b c,x[0]? = some a/\x[1]? = some b/\x[2]? = some c/\a.toNat % 2=half/\b.toNat*256+c.toNat=size
theorem head_is(half size:Nat)(h1:half<=1)(h2:size<65536):headIs (pad (dHead half size)) half size:=by
 refine⟨UInt8.ofNat half,UInt8.ofNat (size / 256),UInt8.ofNat size,rfl,rfl,rfl,?_,?_⟩
 ·rw[UInt8.toNat_ofNat']
  omega
 ·rw[UInt8.toNat_ofNat',UInt8.toNat_ofNat']
  omega
structure Lies (S:List (List UInt8)) (n half:Nat) (t:List UInt8):Prop where
 len:S.length=n
 all:∀ x∈S,x.length=64
 one:half<=1
 head:∃ x,S[0]? = some x/\headIs x half t.length
 fits:secN t.length<=(n-1) / 2
 small:t.length<65536
 at_ : ∀ i,i<secN t.length->S[1+half*((n-1) / 2)+i]? = some (chunk t i)
theorem Lies.off{S T:List (List UInt8)}{n half:Nat}{t:List UInt8}(h:Lies S n half t)(hl:T.length=S.length)(ha:∀ x∈T,x.length=64)(h0:T[0]? = S[0]?)(hj:∀ i,i<(n-1) / 2->T[1+half*((n-1) / 2)+i]? = S[1+half*((n-1) / 2)+i]?):Lies T n half t:=
 ⟨hl.trans h.len,ha,h.one,by rw[h0];exact h.head,h.fits,h.small,fun i hi=>(hj i (by have:=h.fits;omega)).trans (h.at_ i hi)⟩
theorem lies_empty(n:Nat)(hn:16<=n):Lies (List.replicate n (List.replicate 64 0)) n 0 []:=
 ⟨by simp,by intro x hx;rw[List.eq_of_mem_replicate hx];simp,by omega,⟨List.replicate 64 0,by rw[List.getElem?_replicate,if_pos (by omega)],0,0,0,rfl,rfl,rfl,rfl,rfl⟩,by simp[secN],by simp,by intro i hi;simp[secN] at hi⟩
def bodyW(n half:Nat)(t:List UInt8)(k:Nat):List (Nat × List UInt8):=(List.range k).map fun i=>(1+half*((n-1) / 2)+i,chunk t i)
def Dk.body(d:Dk)(n half:Nat)(t:List UInt8):Nat->Dk
 | 0=>d
 | k+1=>(d.body n half t k).write (1+half*((n-1) / 2)+k) (chunk t k)
def Dk.save(d:Dk)(n half:Nat)(t:List UInt8):Dk:=(((d.body n half t (secN t.length)).sync).write 0 (pad (dHead half t.length))).sync
theorem bodyW_succ(n half:Nat)(t:List UInt8)(k:Nat):bodyW n half t (k+1)=bodyW n half t k++[(1+half*((n-1) / 2)+k,chunk t k)]:=by
 unfold bodyW
 rw[List.range_succ,List.map_append]
 rfl
theorem bodyW_mem{n half k:Nat}{t:List UInt8}{w:Nat × List UInt8}(h:w∈bodyW n half t k):∃ i,i<k/\w=(1+half*((n-1) / 2)+i,chunk t i):=by
 unfold bodyW at h
 obtain⟨i,hi,rfl⟩:=List.mem_map.1 h
 exact⟨i,List.mem_range.1 hi,rfl⟩
def Mid(S:List (List UInt8))(n half:Nat)(t:List UInt8)(k:Nat)(d:Dk):Prop:=
 d.held=S/\d.seen.length=S.length/\((d.dead=false/\d.late=bodyW n half t k/\d.seen=putAll (bodyW n half t k) S)\/(d.dead=true/\∃ j,j<=k/\d.late=bodyW n half t j))
theorem body_mid{S:List (List UInt8)}{n half:Nat}{t:List UInt8}{d:Dk}(h1:d.held=S)(h2:d.seen=S)(h3:d.late=[])(h4:d.dead=false):∀ k,Mid S n half t k (d.body n half t k)
 | 0=>⟨h1,by rw[show d.body n half t 0=d from rfl,h2],.inl ⟨h4,h3,h2⟩⟩
 | k+1=>by
  obtain⟨k1,k2,k3⟩:=body_mid (n:=n) (half:=half) (t:=t) h1 h2 h3 h4 k
  show Mid S n half t (k+1) ((d.body n half t k).write _ _)
  generalize d.body n half t k=e at k1 k2 k3
  unfold Dk.write
  by_cases hg:(e.dead || e.left == 0)=true
  ·rw[if_pos hg]
   refine⟨k1,by simpa using k2,.inr ⟨rfl,?_⟩⟩
   rcases k3 with ⟨_,k4,_⟩|⟨_,j,hj,k4⟩
   ·exact⟨k,by omega,k4⟩
   ·exact⟨j,by omega,k4⟩
  ·rw[if_neg hg]
   have hd:e.dead=false:=by
    cases he:e.dead with
    | false=>rfl
    | true=>rw[he] at hg;simp at hg
   rcases k3 with ⟨_,k4,k5⟩|⟨k4,_⟩
   ·refine⟨k1,by simpa using k2,.inl ⟨rfl,?_,?_⟩⟩
    ·show e.late ++ _ = _
     rw[k4,bodyW_succ]
    ·show e.seen.set _ _ = _
     rw[k5,bodyW_succ,putAll_snoc]
   ·rw[k4] at hd;cases hd
theorem lies_body{S:List (List UInt8)}{n half half' k:Nat}{t t':List UInt8}(h:Lies S n half t)(hh:half'=1-half)(hk:k<=(n-1) / 2)(sel:Nat->Bool):Lies (putSome sel 0 (bodyW n half' t' k) S) n half t:=by
 have h1:=h.one
 refine h.off (putSome_len _ _ _ _) (putSome_size _ 64 _ _ _ (fun w hw=>?_) h.all) (putSome_off _ _ _ _ _ (fun w hw=>?_)) (fun i hi=>putSome_off _ _ _ _ _ (fun w hw=>?_))
 ·obtain⟨i,_,rfl⟩:=bodyW_mem hw
  exact pad_len _
 ·obtain⟨i,_,rfl⟩:=bodyW_mem hw
  show 1+half'*((n-1) / 2)+i≠0
  omega
 ·obtain⟨m,hm,rfl⟩:=bodyW_mem hw
  show 1+half'*((n-1) / 2)+m≠1+half*((n-1) / 2)+i
  rcases Nat.lt_or_ge half 1 with h0|h0
  ·have e:half=0:=by omega
   subst e
   subst hh
   simp only[Nat.zero_mul,Nat.one_mul,Nat.sub_zero]
   omega
  ·have e:half=1:=by omega
   subst e
   subst hh
   simp only[Nat.zero_mul,Nat.one_mul,Nat.sub_self]
   omega
theorem body_at(n half:Nat)(t:List UInt8)(S:List (List UInt8)):∀ (k i:Nat),i<k->1+half*((n-1) / 2)+k<=S.length->(putAll (bodyW n half t k) S)[1+half*((n-1) / 2)+i]? = some (chunk t i)
 | 0,i,hi,_=>by omega
 | k+1,i,hi,hl=>by
  rw[bodyW_succ,putAll_snoc]
  by_cases e:i=k
  ·subst e
   rw[List.getElem?_set_self (by rw[putAll_len];omega)]
  ·rw[List.getElem?_set_ne (by omega)]
   exact body_at n half t S k i (by omega) (by omega)
theorem lies_new{S:List (List UInt8)}{n half:Nat}{t t':List UInt8}(h:Lies S n half t)(hn:1<=n)(hf:secN t'.length<=(n-1) / 2)(hs:t'.length<65536):
 Lies ((putAll (bodyW n (1-half) t' (secN t'.length)) S).set 0 (pad (dHead (1-half) t'.length))) n (1-half) t':=by
 have h1:=h.one
 have hl:=h.len
 refine⟨by rw[List.length_set,putAll_len,hl],?_,by omega,⟨_,List.getElem?_set_self (by rw[putAll_len];omega),head_is _ _ (by omega) hs⟩,hf,hs,fun i hi=>?_⟩
 ·intro x hx
  rcases List.mem_or_eq_of_mem_set hx with h2|h2
  ·rw[<-putSome_all _ 0] at h2
   exact putSome_size _ 64 _ _ _ (fun w hw=>by obtain⟨i,_,rfl⟩:=bodyW_mem hw;exact pad_len _) h.all x h2
  ·rw[h2];exact pad_len _
 ·rw[List.getElem?_set_ne (by omega)]
  refine body_at n _ t' S _ i hi ?_
  rcases Nat.lt_or_ge half 1 with h0|h0
  ·have e:half=0:=by omega
   subst e
   simp only[Nat.one_mul,Nat.sub_zero]
   omega
  ·have e:half=1:=by omega
   subst e
   simp only[Nat.zero_mul,Nat.sub_self]
   omega
theorem write_dead{f:Dk}(h:f.dead=true)(n:Nat)(x:List UInt8):f.write n x={ f with seen:=f.seen.set n x,dead:=true,left:=if 0<f.left then f.left-1 else f.left }:=by
 unfold Dk.write
 rw[if_pos (by rw[h];rfl)]
theorem sync_dead{f:Dk}(h:f.dead=true):f.sync={ f with dead:=true,left:=if 0<f.left then f.left-1 else f.left }:=by
 unfold Dk.sync
 rw[if_pos (by rw[h];rfl)]
structure Rest (d:Dk) (n half:Nat) (t:List UInt8):Prop where
 alive:d.dead=false
 late:d.late=[]
 same:d.held=d.seen
 lies:Lies d.seen n half t
structure Broken (d:Dk) (n:Nat) (P:Nat->List UInt8->Prop):Prop where
 dead:d.dead=true
 seen:d.seen.length=n
 lies:∀ sel,∃ half t,P half t/\Lies (putSome sel 0 d.late d.held) n half t
 few:d.late.length<=n
 size:∀ w∈d.late,w.1<n/\w.2.length=64
theorem save_ok{d:Dk}{n half:Nat}{t t':List UInt8}(h:Rest d n half t)(hn:1<=n)(hf:secN t'.length<=(n-1) / 2)(hs:t'.length<65536):
 Rest (d.save n (1-half) t') n (1-half) t'\/Broken (d.save n (1-half) t') n (fun a b=>(a=half/\b=t)\/(a=1-half/\b=t')):=by
 have h1:=h.lies.one
 have hl:=h.lies.len
 have hbs:∀ j,j<=secN t'.length->∀ w∈bodyW n (1-half) t' j,w.1<n/\w.2.length=64:=fun j hj w hw=>by
  obtain⟨i,hi,rfl⟩:=bodyW_mem hw
  refine⟨?_,pad_len _⟩
  show 1+(1-half)*((n-1) / 2)+i<n
  rcases Nat.lt_or_ge half 1 with h0|h0
  ·have e:half=0:=by omega
   subst e
   simp only[Nat.one_mul,Nat.sub_zero]
   omega
  ·have e:half=1:=by omega
   subst e
   simp only[Nat.zero_mul,Nat.sub_self]
   omega
 have hbl:∀ j,(bodyW n (1-half) t' j).length=j:=fun j=>by unfold bodyW;simp
 unfold Dk.save
 obtain⟨k1,k2,k3⟩:=body_mid (S:=d.seen) (n:=n) (half:=1-half) (t:=t') h.same rfl h.late h.alive (secN t'.length)
 generalize d.body n (1-half) t' (secN t'.length)=e at k1 k2 k3
 have hdead:∀ (f:Dk) (x:List UInt8),f.dead=true->(f.write 0 x).sync.dead=true/\(f.write 0 x).sync.late=f.late/\(f.write 0 x).sync.held=f.held/\(f.write 0 x).sync.seen.length=f.seen.length:=fun f x hf=>by
  rw[write_dead hf,sync_dead rfl]
  exact⟨rfl,rfl,rfl,by simp⟩
 rcases k3 with ⟨ka,kb,kc⟩|⟨ka,j,hj,kb⟩
 ·by_cases hg:(e.dead || e.left == 0)=true
  ·have es:e.sync={ e with dead:=true,left:=if 0<e.left then e.left-1 else e.left }:=by unfold Dk.sync;rw[if_pos hg]
   rw[es]
   obtain⟨q1,q2,q3,q4⟩:=hdead { e with dead:=true,left:=if 0<e.left then e.left-1 else e.left } (pad (dHead (1-half) t'.length)) rfl
   refine .inr ⟨q1,by rw[q4];exact k2.trans hl,fun sel=>⟨half,t,.inl ⟨rfl,rfl⟩,?_⟩,?_,?_⟩
   ·rw[q2,q3]
    show Lies (putSome sel 0 e.late e.held) n half t
    rw[kb,k1]
    exact lies_body h.lies rfl hf sel
   ·rw[q2]
    show e.late.length<=n
    rw[kb,hbl]
    omega
   ·rw[q2]
    show ∀ w∈e.late,_
    rw[kb]
    exact hbs _ ler
  ·have es:e.sync={ e with held:=putAll e.late e.held,late:=[],dead:=false,left:=if 0<e.left then e.left-1 else e.left }:=by unfold Dk.sync;rw[if_neg hg]
   rw[es]
   generalize hL:(if 0<e.left then e.left-1 else e.left)=L
   have hS:putAll e.late e.held=e.seen:=by rw[kb,k1,kc]
   rw[hS]
   have hmid:Lies e.seen n half t:=by
    rw[kc,<-putSome_all _ 0]
    exact lies_body h.lies rfl hf _
   have hnew:Lies (e.seen.set 0 (pad (dHead (1-half) t'.length))) n (1-half) t':=by
    rw[kc]
    exact lies_new h.lies hn hf hs
   by_cases hg2:(false || L == 0)=true
   ·have ew:Dk.write { e with held:=e.seen,late:=[],dead:=false,left:=L } 0 (pad (dHead (1-half) t'.length))={ e with held:=e.seen,late:=[],seen:=e.seen.set 0 (pad (dHead (1-half) t'.length)),dead:=true,left:=if 0<L then L-1 else L }:=by
     unfold Dk.write
     rw[if_pos hg2]
    rw[ew]
    generalize (if 0<L then L-1 else L)=L2
    have es2:Dk.sync { e with held:=e.seen,late:=[],seen:=e.seen.set 0 (pad (dHead (1-half) t'.length)),dead:=true,left:=L2 }={ e with held:=e.seen,late:=[],seen:=e.seen.set 0 (pad (dHead (1-half) t'.length)),dead:=true,left:=if 0<L2 then L2-1 else L2 }:=by
     exact sync_dead rfl
    rw[es2]
    exact .inr ⟨rfl,by simpa using hmid.len,fun sel=>⟨half,t,.inl ⟨rfl,rfl⟩,hmid⟩,Nat.zero_le _,fun w hw=>by cases hw⟩
   ·have ew:Dk.write { e with held:=e.seen,late:=[],dead:=false,left:=L } 0 (pad (dHead (1-half) t'.length))={ e with held:=e.seen,late:=[(0,pad (dHead (1-half) t'.length))],seen:=e.seen.set 0 (pad (dHead (1-half) t'.length)),dead:=false,left:=if 0<L then L-1 else L }:=by
     unfold Dk.write
     rw[if_neg hg2]
     rfl
    rw[ew]
    generalize (if 0<L then L-1 else L)=L2
    by_cases hg3:(false || L2 == 0)=true
    ·have es2:Dk.sync { e with held:=e.seen,late:=[(0,pad (dHead (1-half) t'.length))],seen:=e.seen.set 0 (pad (dHead (1-half) t'.length)),dead:=false,left:=L2 }={ e with held:=e.seen,late:=[(0,pad (dHead (1-half) t'.length))],seen:=e.seen.set 0 (pad (dHead (1-half) t'.length)),dead:=true,left:=if 0<L2 then L2-1 else L2 }:=by
      unfold Dk.sync
      rw[if_pos hg3]
     rw[es2]
     refine .inr ⟨rfl,by simpa using hmid.len,fun sel=>?_,by simpa using hn,fun w hw=>by simp only[List.mem_singleton] at hw;subst hw;exact⟨by show 0<n;omega,pad_len _⟩⟩
     show ∃ half_1 t_1,_/\Lies (putSome sel 0 [(0,pad (dHead (1-half) t'.length))] e.seen) n half_1 t_1
     unfold putSome putSome
     by_cases hse:sel 0=true
     ·rw[if_pos hse]
      exact⟨_,_,.inr ⟨rfl,rfl⟩,hnew⟩
     ·rw[if_neg hse]
      exact⟨_,_,.inl ⟨rfl,rfl⟩,hmid⟩
    ·have es2:Dk.sync { e with held:=e.seen,late:=[(0,pad (dHead (1-half) t'.length))],seen:=e.seen.set 0 (pad (dHead (1-half) t'.length)),dead:=false,left:=L2 }={ e with held:=e.seen.set 0 (pad (dHead (1-half) t'.length)),late:=[],seen:=e.seen.set 0 (pad (dHead (1-half) t'.length)),dead:=false,left:=if 0<L2 then L2-1 else L2 }:=by
      unfold Dk.sync
      rw[if_neg hg3]
      rfl
     rw[es2]
     exact .inl ⟨rfl,rfl,rfl,hnew⟩
 ·have es:e.sync={ e with dead:=true,left:=if 0<e.left then e.left-1 else e.left }:=by unfold Dk.sync;rw[if_pos (by rw[ka];rfl)]
  rw[es]
  obtain⟨q1,q2,q3,q4⟩:=hdead { e with dead:=true,left:=if 0<e.left then e.left-1 else e.left } (pad (dHead (1-half) t'.length)) rfl
  refine .inr ⟨q1,by rw[q4];exact k2.trans hl,fun sel=>⟨half,t,.inl ⟨rfl,rfl⟩,?_⟩,?_,?_⟩
  ·rw[q2,q3]
   show Lies (putSome sel 0 e.late e.held) n half t
   rw[kb,k1]
   exact lies_body h.lies rfl (by omega) sel
  ·rw[q2]
   show e.late.length<=n
   rw[kb,hbl]
   omega
  ·rw[q2]
   show ∀ w∈e.late,_
   rw[kb]
   exact hbs _ hj
end M
end Go.Proofs.YtgnfknjopafngabGreatDoor
namespace Go.Proofs.YtgnfknjopafngabGreatDoor
open Go.RowKit
theorem ges{α:Type}{a:Array α}{i:Nat}{b:α}:a[i]? = some b↔∃ h:i<a.size,a[i]=b:=Array.getElem?_eq_some_iff
structure Chg (F:Nat->Prop) (w w':World):Prop where
 os:w'.os=w.os
 tape:w'.tape=w.tape
 output:w'.output=w.output
 size:w.heap.size<=w'.heap.size
 block:∀ k,k<w.heap.size->¬ F k->w'.heap[k]? = w.heap[k]?
theorem Chg.refl(F:Nat->Prop)(w:World):Chg F w w:=⟨rfl,rfl,rfl,Nat.le_refl _,fun _ _ _=>rfl⟩
theorem Chg.below{F:Nat->Prop}{w w':World}(h:Below w.heap.size w w'):Chg F w w':=⟨h.os,h.tape,h.output,h.size,fun k hk _=>h.block k hk⟩
theorem Chg.grown{F:Nat->Prop}{w w':World}{row:Option Nat}(h:w.grownBy w' row)(hF:∀ k,row=some k->k<w.heap.size->F k):Chg F w w':=
 ⟨h.os,h.tape,h.output,h.size,fun k hk hn=>h.block k hk (fun e=>hn (hF k e.symm hk))⟩
theorem Chg.then{F G:Nat->Prop}{u w w':World}(h:Chg F u w)(h':Chg G w w')(hG:∀ k,k<u.heap.size->G k->F k):Chg F u w':=
 ⟨h'.os.trans h.os,h'.tape.trans h.tape,h'.output.trans h.output,Nat.le_trans h.size h'.size,fun k hk hn=>(h'.block k (Nat.lt_of_lt_of_le hk h.size) (fun g=>hn (hG k hk g))).trans (h.block k hk hn)⟩
theorem Chg.weak{F G:Nat->Prop}{w w':World}(h:Chg F w w')(hG:∀ k,k<w.heap.size->F k->G k):Chg G w w':=
 ⟨h.os,h.tape,h.output,h.size,fun k hk hn=>h.block k hk (fun f=>hn (hG k hk f))⟩
theorem Chg.cell{F:Nat->Prop}{w w':World}(h:Chg F w w'){a:Addr}{v:Value}(hc:w.cell? a=some v)(hn:¬ F a.block):w'.cell? a=some v:=
 (World.cell?_of_block (h.block a.block (World.block_lt_of_cell? _ _ hc) hn)).trans hc
theorem Chg.own{F:Nat->Prop}{w w':World}(h:Chg F w w'){base e size n:Nat}{v:Value}{xs:List Value}(ho:w.ownsRow base e size v n xs)(hn:∀ g,v.ownBlock=some g->¬ F g):w'.ownsRow base e size v n xs:=by
 obtain⟨h1,⟨rfl,h2⟩|⟨g,cap,cur,rfl,h2,h3,h4⟩⟩:=ho
 ·exact⟨h1,.inl ⟨rfl,h2⟩⟩
 ·exact⟨h1,.inr ⟨g,cap,cur,rfl,h2,(h.block g (Array.getElem?_eq_some_iff.1 h3).1 (hn g rfl)).trans h3,h4⟩⟩
def NoU8(F:Nat->Prop)(w:World):Prop:=∀ k,F k->∀ cur fz,w.heap[k]?≠some (.cells cur 5 fz)
theorem Sec.chg{F:Nat->Prop}{w w':World}{base:Nat}{v:Value}{x:List UInt8}(h:Sec w base v x)(hc:Chg F w w')(hF:NoU8 F w):Sec w' base v x:=by
 obtain⟨g,c,e,h4,h5,h1,⟨cur,h2⟩,h6,h3⟩:=h
 have hb:=hc.block g (Array.getElem?_eq_some_iff.1 h2).1 (fun f=>hF g f _ _ h2)
 exact⟨g,c,e,h4,h5,h1,⟨cur,hb.trans h2⟩,fun j u hu=>(World.cell?_of_block (a:=⟨g,j,none⟩) hb).trans (h6 j u hu),h3⟩
theorem Secs.chg{F:Nat->Prop}{w w':World}{base:Nat}{v:Value}{l:List (List UInt8)}(h:Secs w base v l)(hc:Chg F w w')(hF:NoU8 F w)(hn:∀ g,v.ownBlock=some g->¬ F g):Secs w' base v l:=by
 obtain⟨vs,h1,h2,h3⟩:=h
 refine⟨vs,hc.own h1 hn,h2,fun i hi=>?_⟩
 obtain⟨u,k1,k2⟩:=h3 i hi
 exact⟨u,k1,k2.chg hc hF⟩
theorem Secs.put{w:World}{base b c:Nat}{n:Nat}{l:List (List UInt8)}{a:Option Addr}(h:Secs w base (.slice a l.length c) l)(ha:a=some ⟨b,0,none⟩)(u:Value)(x:List UInt8)(hu:Sec w base u x):
 Secs (w.setCell ⟨b,n,none⟩ u) base (.slice a l.length c) (l.set n x)/\w.grownBy (w.setCell ⟨b,n,none⟩ u) (some b):=by
 subst ha
 have hno:=h.no_u8
 obtain⟨vs,h1,h2,h3⟩:=h
 obtain⟨k1,k2⟩:=h1.stored n u
 have hr:∀ j,some b=some j->∀ cur fz,w.heap[j]?≠some (.cells cur 5 fz):=fun j hj=>hno j (by cases hj;rfl)
 refine⟨⟨vs.set n u,by rw[List.length_set];exact k1,by rw[List.length_set,List.length_set,h2],fun i hi=>?_⟩,k2⟩
 rw[List.length_set] at hi
 by_cases e:i=n
 ·subst e
  exact⟨u,List.getElem?_set_self (by omega),by rw[List.getElem_set_self];exact hu.kept k2 hr⟩
 ·obtain⟨y,m1,m2⟩:=h3 i hi
  refine⟨y,by rw[List.getElem?_set_ne (by omega)];exact m1,?_⟩
  rw[List.getElem_set_ne (by omega)]
  exact m2.kept k2 hr
def lateCells:List (Nat × List UInt8)->List Value->List Value
 | p :: l,u :: us=>.int .i64 p.1 :: u :: lateCells l us
 | _,_=>[]
theorem lateCells_snoc:∀ (l:List (Nat × List UInt8)) (us:List Value) (p:Nat × List UInt8) (u:Value),us.length=l.length->lateCells (l++[p]) (us++[u])=lateCells l us++[.int .i64 p.1,u]
 | [],[],p,u,_=>rfl
 | a :: l,b :: us,p,u,h=>by
  simp only[List.cons_append,lateCells]
  rw[lateCells_snoc l us p u (by simpa using h)]
 | [],_ :: _,_,_,h=>by simp at h
 | _ :: _,[],_,_,h=>by simp at h
theorem lateCells_at:∀ (l:List (Nat × List UInt8)) (us:List Value) (i:Nat) (p:Nat × List UInt8) (u:Value),l[i]? = some p->us[i]? = some u->(lateCells l us)[i*2]? = some (.int .i64 p.1)/\(lateCells l us)[i*2+1]? = some u
 | a :: l,b :: us,0,p,u,h1,h2=>by simp at h1 h2;subst h1 h2;exact⟨rfl,rfl⟩
 | a :: l,b :: us,i+1,p,u,h1,h2=>by
  have:=lateCells_at l us i p u (by simpa using h1) (by simpa using h2)
  rw[show (i+1)*2=i*2+1+1 by omega]
  simpa [lateCells] using this
 | [],_,i,p,u,h1,_=>by simp at h1
 | _ :: _,[],i,p,u,_,h2=>by simp at h2
def LateIn(w:World)(base:Nat)(v:Value)(l:List (Nat × List UInt8)):Prop:=(l=[]->v.ownBlock=.none)/\∃ us,us.length=l.length/\w.ownsRow base 246 2 v l.length (lateCells l us)/\∀ i (hi:i<l.length),∃ u,us[i]? = some u/\Sec w base u l[i].2
theorem LateIn.none(w:World)(base:Nat):LateIn w base (.slice .none 0 0) []:=⟨fun _=>rfl,[],rfl,World.ownsRow_nil _ _ _ _,fun i hi=>by simp at hi⟩
theorem LateIn.form{w:World}{base:Nat}{v:Value}{l:List (Nat × List UInt8)}(h:LateIn w base v l):∃ a c,v=.slice a l.length c:=by
 obtain⟨_,us,_,h1,_⟩:=h
 exact own_form h1
theorem LateIn.lt{w:World}{base:Nat}{v:Value}{l:List (Nat × List UInt8)}(h:LateIn w base v l):∀ g,v.ownBlock=some g->base<=g/\g<w.heap.size:=by
 obtain⟨_,us,_,h1,_⟩:=h
 exact fun g hg=>h1.lt g hg
theorem LateIn.chg{F:Nat->Prop}{w w':World}{base:Nat}{v:Value}{l:List (Nat × List UInt8)}(h:LateIn w base v l)(hc:Chg F w w')(hF:NoU8 F w)(hn:∀ g,v.ownBlock=some g->¬ F g):LateIn w' base v l:=by
 obtain⟨h0,us,h1,h2,h3⟩:=h
 refine⟨h0,us,h1,hc.own h2 hn,fun i hi=>?_⟩
 obtain⟨u,k1,k2⟩:=h3 i hi
 exact⟨u,k1,k2.chg hc hF⟩
theorem Secs.type{w:World}{base:Nat}{v:Value}{l:List (List UInt8)}(h:Secs w base v l):∀ g,v.ownBlock=some g->∃ cur,w.heap[g]? = some (.cells cur 102 (0,0)):=by
 obtain⟨vs,h1,_⟩:=h
 obtain⟨_,⟨rfl,_⟩|⟨g,cap,cur,rfl,_,hg,_⟩⟩:=h1
 ·intro g h;cases h
 ·intro g' h;cases h;exact⟨cur,hg⟩
theorem LateIn.type{w:World}{base:Nat}{v:Value}{l:List (Nat × List UInt8)}(h:LateIn w base v l):∀ g,v.ownBlock=some g->∃ cur,w.heap[g]? = some (.cells cur 246 (0,0)):=by
 obtain⟨_,us,_,h1,_⟩:=h
 obtain⟨_,⟨rfl,_⟩|⟨g,cap,cur,rfl,_,hg,_⟩⟩:=h1
 ·intro g h;cases h
 ·intro g' h;cases h;exact⟨cur,hg⟩
structure DiskIs (w:World) (d:Nat) (hv sv lv:Value) (D:M.Dk):Prop where
 blk:w.heap[d]? = some (.cells #[hv,sv,lv,.int .i64 D.left,.bool D.dead] 101 (0,0))
 held:Secs w (d+1) hv D.held
 seen:Secs w (d+1) sv D.seen
 late:LateIn w (d+1) lv D.late
 apart:∀ g,hv.ownBlock=some g->sv.ownBlock≠some g
def dFoot(d:Nat)(hv sv lv:Value)(k:Nat):Prop:=k=d\/hv.ownBlock=some k\/sv.ownBlock=some k\/lv.ownBlock=some k
theorem DiskIs.chg{F:Nat->Prop}{w w':World}{d:Nat}{hv sv lv:Value}{D:M.Dk}(h:DiskIs w d hv sv lv D)(hc:Chg F w w')(hF:NoU8 F w)(hn:∀ k,dFoot d hv sv lv k->¬ F k):DiskIs w' d hv sv lv D:=
 ⟨(hc.block d (Array.getElem?_eq_some_iff.1 h.blk).1 (hn d (.inl rfl))).trans h.blk,h.held.chg hc hF (fun g hg=>hn g (.inr (.inl hg))),h.seen.chg hc hF (fun g hg=>hn g (.inr (.inr (.inl hg)))),h.late.chg hc hF (fun g hg=>hn g (.inr (.inr (.inr hg)))),h.apart⟩
theorem noU8_none(w:World):NoU8 (fun _=>False) w:=fun _ h=>h.elim
theorem DiskIs.below{w w':World}{d:Nat}{hv sv lv:Value}{D:M.Dk}(h:DiskIs w d hv sv lv D)(hb:Below w.heap.size w w'):DiskIs w' d hv sv lv D:=
 h.chg (Chg.below (F:=fun _=>False) hb) (noU8_none w) (fun _ _ f=>f)
theorem heap_kept{w w':World}{g:Nat}{o:Obj}(h:w.heap[g]? = some o){row:Option Nat}(hg:w.grownBy w' row)(hn:some g≠row):w'.heap[g]? = some o:=(hg.block g (Array.getElem?_eq_some_iff.1 h).1 hn).trans h
theorem DiskIs.ctl{w w':World}{d:Nat}{hv sv lv:Value}{D:M.Dk}(h:DiskIs w d hv sv lv D)(hg:w.grownBy w' (some d))(left:Int)(dead:Bool)(hb:w'.heap[d]? = some (.cells #[hv,sv,lv,.int .i64 left,.bool dead] 101 (0,0))):DiskIs w' d hv sv lv { D with left:=left,dead:=dead }:=by
 have hc:Chg (fun k=>k=d) w w':=Chg.grown hg (fun k e _=>(Option.some.inj e).symm)
 have hF:NoU8 (fun k=>k=d) w:=fun k e cur fz=>by subst e;rw[h.blk];intro e;cases e
 have hne:∀ (v:Value),(∀ g,v.ownBlock=some g->d+1<=g/\g<w.heap.size)->∀ g,v.ownBlock=some g->¬ g=d:=fun v hl g hg e=>by have:=hl g hg;omega
 exact⟨hb,h.held.chg hc hF (hne _ h.held.lt),h.seen.chg hc hF (hne _ h.seen.lt),h.late.chg hc hF (hne _ h.late.lt),h.apart⟩
theorem DiskIs.putSeen{w:World}{d b c n:Nat}{hv lv:Value}{D:M.Dk}(h:DiskIs w d hv (.slice (some ⟨b,0,none⟩) D.seen.length c) lv D)(u:Value)(x:List UInt8)(hu:Sec w (d+1) u x):
 DiskIs (w.setCell ⟨b,n,none⟩ u) d hv (.slice (some ⟨b,0,none⟩) D.seen.length c) lv { D with seen:=D.seen.set n x }/\w.grownBy (w.setCell ⟨b,n,none⟩ u) (some b):=by
 obtain⟨k1,k2⟩:=h.seen.put (n:=n) rfl u x hu
 have hb:=h.seen.lt b rfl
 obtain⟨cur,ht⟩:=h.seen.type b rfl
 have hc:Chg (fun k=>k=b) w (w.setCell ⟨b,n,none⟩ u):=Chg.grown k2 (fun k e _=>(Option.some.inj e).symm)
 have hF:NoU8 (fun k=>k=b) w:=fun k e cur fz=>by subst e;rw[ht];intro e;cases e
 refine⟨⟨heap_kept h.blk k2 (fun e=>by have:=Option.some.inj e;omega),h.held.chg hc hF (fun g hg e=>?_),k1,h.late.chg hc hF (fun g hg e=>?_),h.apart⟩,k2⟩
 ·subst e
  exact h.apart g hg rfl
 ·subst e
  obtain⟨c2,h2⟩:=h.late.type g hg
  rw[ht] at h2
  cases h2
theorem DiskIs.putHeld{w:World}{d b c n:Nat}{sv lv:Value}{D:M.Dk}(h:DiskIs w d (.slice (some ⟨b,0,none⟩) D.held.length c) sv lv D)(u:Value)(x:List UInt8)(hu:Sec w (d+1) u x):
 DiskIs (w.setCell ⟨b,n,none⟩ u) d (.slice (some ⟨b,0,none⟩) D.held.length c) sv lv { D with held:=D.held.set n x }/\w.grownBy (w.setCell ⟨b,n,none⟩ u) (some b):=by
 obtain⟨k1,k2⟩:=h.held.put (n:=n) rfl u x hu
 have hb:=h.held.lt b rfl
 obtain⟨cur,ht⟩:=h.held.type b rfl
 have hc:Chg (fun k=>k=b) w (w.setCell ⟨b,n,none⟩ u):=Chg.grown k2 (fun k e _=>(Option.some.inj e).symm)
 have hF:NoU8 (fun k=>k=b) w:=fun k e cur fz=>by subst e;rw[ht];intro e;cases e
 refine⟨⟨heap_kept h.blk k2 (fun e=>by have:=Option.some.inj e;omega),k1,h.seen.chg hc hF (fun g hg e=>?_),h.late.chg hc hF (fun g hg e=>?_),h.apart⟩,k2⟩
 ·subst e
  exact h.apart g rfl hg
 ·subst e
  obtain⟨c2,h2⟩:=h.late.type g hg
  rw[ht] at h2
  cases h2
theorem DiskIs.noLate{w:World}{d:Nat}{hv sv lv:Value}{D:M.Dk}(h:DiskIs w d hv sv lv D):DiskIs (w.setCell ⟨d,2,none⟩ (.slice none 0 0)) d hv sv (.slice none 0 0) { D with late:=[] }/\w.grownBy (w.setCell ⟨d,2,none⟩ (.slice none 0 0)) (some d):=by
 have hg:w.grownBy (w.setCell ⟨d,2,none⟩ (.slice none 0 0)) (some d):=⟨rfl,rfl,rfl,by simp,fun k _ hk=>Below.heap_setCell _ _ _ _ (fun e=>hk (by rw[e]))⟩
 have hc:Chg (fun k=>k=d) w (w.setCell ⟨d,2,none⟩ (.slice none 0 0)):=Chg.grown hg (fun k e _=>(Option.some.inj e).symm)
 have hF:NoU8 (fun k=>k=d) w:=fun k e cur fz=>by subst e;rw[h.blk];intro e;cases e
 have hne:∀ (v:Value),(∀ g,v.ownBlock=some g->d+1<=g/\g<w.heap.size)->∀ g,v.ownBlock=some g->¬ g=d:=fun v hl g hg e=>by have:=hl g hg;omega
 exact⟨⟨heap_setCell_same w d 2 _ _ _ h.blk,h.held.chg hc hF (hne _ h.held.lt),h.seen.chg hc hF (hne _ h.seen.lt),LateIn.none _ _,h.apart⟩,hg⟩
end Go.Proofs.YtgnfknjopafngabGreatDoor
namespace Go.Proofs.YtgnfknjopafngabGreatDoor
open Go Go.RowKit
variable {F:Fence} {n:Nat} {P:Program}
def SeqOn(F:Fence)(n:Nat)(P:Program)(gf:Nat)(fr lb:Array Value)(m:Nat)(encs:Nat->Array Value)(w0:World)(Pre:World->Prop):Prop:=
 ∀ (l:Nat) (J:Nat->(Nat->Prop)->World->Prop) (W:World) (c:Nat->Prop),Pre W->Below w0.heap.size w0 W->
  (∀ k c W1 W2,J k c W1->Chg (fun j=>W.heap.size<=j/\¬ c j) W1 W2->J k c W2)->
  (∀ k c W1 j,J k c W1->c j->w0.heap.size<=j/\j<W1.heap.size)->
  (∀ k c W1,k<m->J k c W1->YieldAt F (n-1) P l (encs k) W1 fun e W'=>e=.returned (.bool true)/\∃ c',J (k+1) c' W'/\Chg c W1 W'/\∀ j,c' j->c j\/W1.heap.size<=j)->
  J 0 c W->
  CallsIn F n P gf (fr++#[.func (.yield l) #[] #[]]++lb) W fun e W'=>(∃ v,e=.returned v)/\∃ c',J m c' W'
theorem round_any{m m':Nat}{P:Program}{l:Nat}{f:FuncId}{tmps:Array Value}{assign body:Code}{w:World}{R:Ending->World->Prop}(h:RoundIn Fence.wide m P l f tmps assign body w R):RoundIn Fence.wide m' P l f tmps assign body w R:=
 ⟨h.1,fun c cs _=>h.2 c cs (fun d e=>by cases e)⟩
theorem yield_any{m m':Nat}{P:Program}{l:Nat}{args:Array Value}{W:World}{R:Ending->World->Prop}(h:YieldAt Fence.wide m P l args W R):YieldAt Fence.wide m' P l args W R:=by
 obtain⟨fn,tmps,assign,body,hy,hR⟩:=h
 exact⟨fn,tmps,assign,body,hy,round_any hR⟩
theorem putObj_chg{G:Nat->Prop}{W:World}{l:Nat}(o:Obj)(h:G l):Chg G W (W.putObj l o):=
 ⟨rfl,rfl,rfl,by simp[World.putObj],fun k _ hn=>World.putObj_heap_other (fun e=>hn (by rw[e];exact h))⟩
theorem wpIn_range_on{g:Operand}{ps:Array Tmp}{assign body:Code}{Q:Exit->Act->World->Prop}{a:Act}{w:World}
 (hro:F.round=none) (h1:1<=n) {gf:Nat} {fr lb:Array Value} (hg:a.eval g=.func (.func gf) fr lb) (hFg:F.fn gf) (eg:∀ args w,(callFunc gf args).run P w=.ok (.enter gf args) w)
 {m:Nat} {encs:Nat->Array Value} {w0:World} {Pre:World->Prop} (hseq:SeqOn F (n-1) P gf fr lb m encs w0 Pre) (hpre:∀ W,Below w.heap.size w W->Pre W) (hb0:Below w0.heap.size w0 w) (hps:∀ k,(encs k).size=ps.size)
 (I:Nat->(Nat->Prop)->World->Prop) (hIa:∀ k c W1 W2,I k c W1->Chg (fun j=>w.heap.size<=j/\¬ c j) W1 W2->I k c W2) (hIc:∀ k c W1 j,I k c W1->c j->w0.heap.size<=j/\j<W1.heap.size)
 (c0:Nat->Prop) (h0:I 0 c0 w) (a₁:Nat->Act)
 (hassign:∀ (l k:Nat) (W:World) (K:Act->World->Prop),K (a₁ k) W->
   assign.wpIn (F.inRound l) (n-1-1) P (Exit.then K (fun _ _ _=>False)) { tmps:=(ps.zip (encs k)).foldl (fun t (p,v)=>t.setIfInBounds p v) a.tmps,defers:=[] } W)
 (hbody:∀ (l k:Nat) (c:Nat->Prop) (W:World),k<m->I k c W->
   body.wpIn (F.inRound l) (n-1-1) P (fun e _ W'=>e=.normal/\∃ c',I (k+1) c' W'/\Chg c W W'/\∀ j,c' j->c j\/W.heap.size<=j) (a₁ k) W)
 (hdone:∀ (D:Nat) (c:Nat->Prop) (W:World),w.heap.size<=D->¬ c D->I m c W->W.heap[D]? = some (.deferred (some []))->Q .normal { a with defers:={ target:=.collected D,args:=#[] } :: a.defers } W):
 (Code.rangeFunc g ps assign body).wpIn F n P Q a w:=by
 refine wpIn_rangeFunc ?_
 intro fn hfn
 rw[hro]
 obtain⟨rec,hrec⟩:∃ rec:LoopState->Loop,rec=fun st=>{ state:=st,pending:=none,fn,tmps:=a.tmps,params:=ps,assign,body,defers:=w.heap.size }:=⟨_,rfl⟩
 obtain⟨W1,hW1⟩:∃ W1,(w.alloc (.deferred (some []))).alloc (.loop (rec .ready))=W1:=⟨_,rfl⟩
 have hs1:W1.heap.size=w.heap.size+2:=by rw[<-hW1];simp
 have hBW:Below w.heap.size w W1:=by rw[<-hW1];exact bt ((Below.refl _ w).alloc ler _) ((Below.refl _ _).alloc ler _)
 have hL1:W1.heap[w.heap.size+1]? = some (.loop (rec .ready)):=by
  rw[<-hW1]
  have:=World.alloc_heap_new (w.alloc (.deferred (some []))) (.loop (rec .ready))
  rwa [World.size_alloc] at this
 have hK1:W1.heap[w.heap.size]? = some (.deferred (some [])):=by
  rw[<-hW1];exact(Below.heap_alloc _ _ _ (by simp)).trans (World.alloc_heap_new w _)
 refine⟨w.heap.size+1,[{ target:=.collected w.heap.size,args:=#[] }],W1,{ target:=.fn (.func gf) lb,args:=fr++#[.func (.yield (w.heap.size+1)) #[] #[]] },W1,gf,
  fr++#[.func (.yield (w.heap.size+1)) #[] #[]]++lb,W1,?_,?_,?_,?_,fun _=>h1,?_⟩
 ·rw[<-hW1,hrec];exact run_enterLoop_outer _ _ _ _ _
 ·simp only[resolve,hg]
  simp[go_sem]
 ·intro f' hf';simp[Target.leads] at hf';subst hf';exact hFg
 ·simp[invoke,go_sem,eg]
 ·have hI1:I 0 c0 W1:=hIa 0 c0 w W1 h0 (Chg.below hBW)
  refine(hseq (w.heap.size+1)
   (fun k c W=>∃ cc,I k cc W/\¬ cc (w.heap.size+1)/\¬ cc w.heap.size/\W.heap[w.heap.size+1]? = some (.loop (rec .ready))/\W.heap[w.heap.size]? = some (.deferred (some []))/\∀ j,c j↔cc j\/j=w.heap.size+1)
   W1 (fun j=>c0 j\/j=w.heap.size+1) (hpre W1 hBW) (hb0.trans (hBW.mono hb0.size)) ?_ ?_ ?_ ?_).mono ?_
  ·rintro k c W2 W3 ⟨cc,hi,n1,n2,hl,hk,hc⟩ hg'
   have hlt:w.heap.size+1<W2.heap.size:=(ges.1 hl).1
   refine⟨cc,hIa k cc W2 W3 hi (hg'.weak (fun j _ hj=>⟨by omega,fun e=>hj.2 ((hc j).2 (.inl e))⟩)),n1,n2,(hg'.block _ hlt (fun e=>by omega)).trans hl,(hg'.block _ (by omega) (fun e=>by omega)).trans hk,hc⟩
  ·rintro k c W2 j ⟨cc,hi,n1,n2,hl,hk,hc⟩ hj
   rcases(hc j).1 hj with e|rfl
   ·exact hIc k cc W2 j hi e
   ·exact⟨by have:=hb0.size;omega,(ges.1 hl).1⟩
  ·rintro k c W hkm ⟨cc,hi,n1,n2,hl,hk,hc⟩
   have hlt:w.heap.size+1<W.heap.size:=(ges.1 hl).1
   have hy:=run_yield (P:=P) (args:=encs k) hl (by rw[hrec];exact hps k)
   rw[hrec] at hy
   refine⟨fn,_,assign,body,hy,roundIn_of_wpIn hfn (hassign _ k W _ ⟨_,run_beginRound hl (by rw[hrec]),?_⟩)⟩
   have hbusy:({ rec .ready with state:=.busy }:Loop)=rec .busy:=by rw[hrec]
   rw[hbusy]
   have hl2:(W.putObj (w.heap.size+1) (.loop (rec .busy))).heap[w.heap.size+1]? = some (.loop (rec .busy)):=World.putObj_heap_same hlt
   have hk2:(W.putObj (w.heap.size+1) (.loop (rec .busy))).heap[w.heap.size]? = some (.deferred (some [])):=(World.putObj_heap_other (by omega)).trans hk
   have hc2:Chg (fun j=>w.heap.size<=j/\¬ cc j) W (W.putObj (w.heap.size+1) (.loop (rec .busy))):=putObj_chg _ ⟨by omega,n1⟩
   have hi2:=hIa k cc W _ hi hc2
   have hsz2:(W.putObj (w.heap.size+1) (.loop (rec .busy))).heap.size=W.heap.size:=by simp[World.putObj]
   have hcl:Chg c W (W.putObj (w.heap.size+1) (.loop (rec .busy))):=putObj_chg _ ((hc _).2 (.inr rfl))
   refine wpIn_mono (hbody _ k cc _ hkm hi2) ?_
   rintro e a3 W3 ⟨rfl,c3,hi3,hg3,hc3⟩
   have hl3:W3.heap[w.heap.size+1]? = some (.loop (rec .busy)):=(hg3.block _ (by omega) n1).trans hl2
   have hk3:W3.heap[w.heap.size]? = some (.deferred (some [])):=(hg3.block _ (by omega) n2).trans hk2
   have he:=run_endRound (P:=P) none hl3
   have hend:({ rec .busy with state:=.ready,pending:=none }:Loop)=rec .ready:=by rw[hrec]
   have n3:∀ j,j<W.heap.size->¬ cc j->¬ c3 j:=fun j hj hn e=>by
    rcases hc3 j e with e|e
    ·exact hn e
    ·omega
   refine⟨_,_,he,rfl,fun j=>c3 j\/j=w.heap.size+1,⟨c3,hIa (k+1) c3 W3 _ hi3 (putObj_chg _ ⟨by omega,n3 _ hlt n1⟩),n3 _ hlt n1,n3 _ (by omega) n2,?_,(World.putObj_heap_other (by omega)).trans hk3,fun j=>Iff.rfl⟩,?_,?_⟩
   ·rw[World.putObj_heap_same (ges.1 hl3).1]
    rw[hrec]
    rfl
   ·refine(hcl.then hg3 (fun j _ e=>(hc j).2 (.inl e))).then (putObj_chg (G:=fun j=>j=w.heap.size+1) _ rfl) (fun j _ e=>(hc j).2 (.inr e))
   ·intro j hj
    rcases hj with e|e
    ·rcases hc3 j e with e|e
     ·exact .inl ((hc j).2 (.inl e))
     ·exact .inr (by omega)
    ·exact .inl ((hc j).2 (.inr e))
  ·have hn1:∀ j,w.heap.size<=j->¬ c0 j:=fun j hj e=>by have:=(hIc 0 c0 w j h0 e).2;omega
   exact⟨c0,hI1,hn1 _ (by omega),hn1 _ ler,hL1,hK1,fun j=>Iff.rfl⟩
  ·rintro e W2 ⟨⟨v,rfl⟩,c,cc,hi,n1,n2,hl,hk,hc⟩
   refine⟨none,_,by have:=run_endLoop (P:=P) hl (by rw[hrec];simp);rw[hrec] at this;exact this,?_⟩
   exact hdone _ cc _ ler n2 (hIa m cc W2 _ hi (putObj_chg _ ⟨by omega,n1⟩)) ((World.putObj_heap_other (by omega)).trans hk)
end Go.Proofs.YtgnfknjopafngabGreatDoor
