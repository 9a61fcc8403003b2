import Derived.Laws.CopyRow
import Derived.Test.YtgnfknjopafngaaGreatDoorKtg
import Derived.Laws.OwnMore
set_option maxRecDepth 100000
set_option maxHeartbeats 4000000
namespace Go.Proofs.YtgnfknjopafngaaGreatDoor
open Go.RowKit
theorem Zsq(x:List UInt8):∀ v∈x.map Zbl,v.oneCell'=true:=fun v hv=>by
 obtain⟨b,_,rfl⟩:=List.mem_map.1 hv
 rfl
theorem Z0f:(Tryz.prog.info? 5).map (·.size)=some 1:=by kernel_rfl
theorem Z93{w:World}{g h:Nat}{cur:Array Value}{x:List UInt8}{t:TypeId}(ty:TypeId)(hg:w.heap[g]? = some (.cells cur t (0,0)))(hc:cur.size=64){c:Nat}(hh:∀ j u,(x.map Zbl)[j]? = some u->w.cell? ⟨h,j,none⟩=some u)(hx:x.length=64):
 (Builtin.copy_ #[131,131] ty #[.slice (some ⟨g,0,none⟩) 64 64,.slice (some ⟨h,0,none⟩) 64 c]).run Tryz.prog w=.ok (.int .i64 64) (w.setRow g (x.map Zbl).toArray):=by
 have hl:(x.map Zbl).length=64:=by rw[List.length_map];exact hx
 rw[run_copy_row Tryz.prog w 131 131 ty 5 g 0 64 64 ⟨h,0,none⟩ 64 c cur t (x.map Zbl) Tryz.underlying131 Z0f hg (by rw[hl];rfl) (fun j v hv=>by
  rw[Addr.add_lit,Nat.zero_add]
  exact hh j v hv) (by omega) (Zsq x)]
 rw[hl]
 have e:(cur.toList.take 0++x.map Zbl++cur.toList.drop (0+64))=x.map Zbl:=by
  rw[List.drop_eq_nil_of_le (by simp;omega)]
  simp
 rw[e]
 rfl
theorem Zgy(w:World)(g:Nat)(cs:Array Value):w.grownBy (w.setRow g cs) (some g):=⟨rfl,rfl,rfl,by simp,fun k _ hk=>setRow_other w g k _ (fun e=>hk (by rw[e]))⟩
theorem Zg0.at{w:World}{base:Nat}{v:Value}{l:List (List UInt8)}(h:Zg0 w base v l){n:Nat}(hn:n<l.length):
 ∃ b c g cg,v=.slice (some ⟨b,0,none⟩) l.length c/\b<w.heap.size/\l.length<=c/\c<=maxLen/\w.cell? ⟨b,n,none⟩=some (.slice (some ⟨g,0,none⟩) 64 cg)/\64<=cg/\cg<=maxLen/\g<w.heap.size/\(∀ j u,(l[n].map Zbl)[j]? = some u->w.cell? ⟨g,j,none⟩=some u)/\l[n].length=64:=by
 obtain⟨vs,h1,h2,h3⟩:=h
 obtain⟨u,k1,g,cg,rfl,k5,k6,k2,⟨cur0,k3⟩,k7,k4⟩:=h3 n hn
 have h1':=h1
 obtain⟨hl,⟨rfl,h0⟩|⟨b,cap,cur,rfl,hb,hg,hnc,hcm,hcs,ht⟩⟩:=h1
 ·omega
 ·have hc:=h1'.cellAt n (by omega)
  exact⟨b,cap,g,cg,rfl,(Array.getElem?_eq_some_iff.1 hg).1,hnc,hcm,hc.trans k1,k5,k6,(Array.getElem?_eq_some_iff.1 k3).1,k7,k4⟩
theorem Z3m(d n:Nat)(hv sv lv:Value)(left:Int)(dead:Bool)(held seen:List (List UInt8))(w:World)(h:Zda w d hv sv lv left dead held seen)(hn:n<seen.length):
 Calls Tryz.prog 319 #[.pointer (some ⟨d,0,none⟩),.int .i64 n] w fun e w'=>e=.returned (.slice (some ⟨w.heap.size,0,none⟩) 64 64)/\w'.heap[w.heap.size]? = some (.cells (seen[n].map Zbl).toArray 5 (0,0))/\Below w.heap.size w w':=by
 have hmk:=Z4z
 obtain⟨b,c,g,cg,rfl,hb,hc1,hc2,q1,hg1,hg2,hg,q2,q3⟩:=h.seen.at hn
 have hd:d<w.heap.size:=(Array.getElem?_eq_some_iff.1 h.blk).1
 have q0:w.cell? ⟨d,1,none⟩=some (.slice (some ⟨b,0,none⟩) seen.length c):=by rw[cell_of_row w _ 1 _ _ (0,0) h.blk];rfl
 generalize hX:seen[n]=X at q2 q3 ⊢
 clear hX
 generalize hL:seen.length=L at q0 hn hc1
 generalize hA:w.alloc (.cells Z64 5)=A1
 have hB:Below w.heap.size w A1:=by rw[<-hA];exact(Below.refl _ w).alloc ler _
 have hn1:A1.heap[w.heap.size]? = some (.cells Z64 5 (0,0)):=by rw[<-hA];exact heap_alloc_new w _
 have p0:=(hB.cell (p:=⟨d,1,none⟩) hd).trans q0
 have p1:=(hB.cell (p:=⟨b,n,none⟩) hb).trans q1
 have hcp:=Z93 3 hn1 (by simp[Z64,Zo1]) (c:=cg) (fun j u hu=>(hB.cell (p:=⟨g,j,none⟩) hg).trans (q2 j u hu)) q3
 have hL2:L<=9223372036854775807:=by unfold maxLen at hc2;omega
 have hg3:cg<=9223372036854775807:=by unfold maxLen at hg2;omega
 have HE:Hid (w.heap.size<=A1.heap.size/\(A1.setRow w.heap.size (X.map Zbl).toArray).heap[w.heap.size]? = some (.cells (X.map Zbl).toArray 5 (0,0))/\Below w.heap.size w (A1.setRow w.heap.size (X.map Zbl).toArray)):=
  ⟨hB.size,setRow_heap A1 _ _ _ _ _ hn1,hB.grown (Zgy A1 _ _) hB.size (fun j hj=>by cases hj;exact Nat.le_refl _)⟩
 clear q0 q1 q2 q3 hL hn1 hB h
 go_enter Tryz.func319,Tryz.ntmps319
 go_wp2
 go_ret
 exact⟨rfl,HE.out.2⟩
def Zao(w:World)(k d qY:Nat):Prop:=w.heap[k]? = some (.cells #[.iface 84 (.pointer (some ⟨d,0,none⟩)),.int .i64 qY] 196 (0,0))
namespace M
def pad(l:List UInt8):List UInt8:=l.take 64++List.replicate (64-l.length) 0
theorem Zhm(l:List UInt8):(pad l).length=64:=by
 unfold pad
 rw[List.length_append,List.length_take,List.length_replicate]
 omega
structure Dk where
 held:List (List UInt8)
 seen:List (List UInt8)
 late:List (Nat × List UInt8)
 left:Int
 dead:Bool
def Dk.tick(d:Dk):Dk:={ d with dead:=d.dead || d.left == 0,left:=if 0<d.left then d.left-1 else d.left }
def Dk.write(d:Dk)(n:Nat)(x:List UInt8):Dk:=
 if (d.dead || d.left == 0)=true then { d with seen:=d.seen.set n x,dead:=true,left:=if 0<d.left then d.left-1 else d.left }
 else { d with seen:=d.seen.set n x,dead:=false,left:=if 0<d.left then d.left-1 else d.left,late:=d.late++[(n,x)] }
def Zds(l:List (Nat × List UInt8))(h:List (List UInt8)):List (List UInt8):=l.foldl (fun h w=>h.set w.1 w.2) h
def Dk.sync(d:Dk):Dk:=
 if (d.dead || d.left == 0)=true then { d with dead:=true,left:=if 0<d.left then d.left-1 else d.left }
 else { d with held:=Zds d.late d.held,late:=[],dead:=false,left:=if 0<d.left then d.left-1 else d.left }
def Zbd(sel:Nat->Bool):Nat->List (Nat × List UInt8)->List (List UInt8)->List (List UInt8)
 | _,[],h=>h
 | i,w :: r,h=>Zbd sel (i+1) r (if sel i=true then h.set w.1 w.2 else h)
theorem Zd7:∀ (l:List (Nat × List UInt8)) (h:List (List UInt8)),(Zds l h).length=h.length
 | [],h=>rfl
 | w :: r,h=>by
  unfold Zds
  rw[List.foldl_cons]
  have:=Zd7 r (h.set w.1 w.2)
  unfold Zds at this
  rw[this,List.length_set]
theorem Zdx(sel:Nat->Bool):∀ (l:List (Nat × List UInt8)) (i:Nat) (h:List (List UInt8)),(Zbd sel i l h).length=h.length
 | [],i,h=>rfl
 | w :: r,i,h=>by
  unfold Zbd
  rw[Zdx sel r]
  split
  ·rw[List.length_set]
  ·rfl
theorem Zkn:∀ (l:List (Nat × List UInt8)) (i:Nat) (h:List (List UInt8)),Zbd (fun _=>true) i l h=Zds l h
 | [],i,h=>rfl
 | w :: r,i,h=>by
  unfold Zbd Zds
  rw[if_pos rfl,List.foldl_cons,Zkn r]
  rfl
theorem Zj2(sel:Nat->Bool):∀ (l:List (Nat × List UInt8)) (i:Nat) (h:List (List UInt8)) (j:Nat),(∀ w∈l,w.1≠j)->(Zbd sel i l h)[j]? = h[j]?
 | [],i,h,j,_=>rfl
 | w :: r,i,h,j,hj=>by
  unfold Zbd
  rw[Zj2 sel r _ _ j (fun v hv=>hj v (by simp[hv]))]
  split
  ·rw[List.getElem?_set_ne (hj w (by simp))]
  ·rfl
theorem Zkl(l:List (Nat × List UInt8))(w:Nat × List UInt8)(h:List (List UInt8)):Zds (l++[w]) h=(Zds l h).set w.1 w.2:=by
 unfold Zds
 rw[List.foldl_append]
 rfl
theorem Zik(sel:Nat->Bool)(n:Nat):∀ (l:List (Nat × List UInt8)) (i:Nat) (h:List (List UInt8)),(∀ w∈l,w.2.length=n)->(∀ x∈h,x.length=n)->∀ x∈Zbd sel i l h,x.length=n
 | [],i,h,_,hh=>hh
 | w :: r,i,h,hw,hh=>by
  unfold Zbd
  refine Zik sel n r _ _ (fun v hv=>hw v (by simp[hv])) ?_
  split
  ·intro x hx
   rcases List.mem_or_eq_of_mem_set hx with h1|h1
   ·exact hh x h1
   ·rw[h1];exact hw w (by simp)
  ·exact hh
def chunk(t:List UInt8)(i:Nat):List UInt8:=pad (t.drop (64*i))
def Zfv(n:Nat):Nat:=(n+63) / 64
theorem Zo9(t:List UInt8):∀ (k:Nat),k*64<=t.length+63->((List.range k).flatMap (chunk t)).take t.length=t.take (64*k)/\((List.range k).flatMap (chunk t)).length=64*k
 | 0,_=>by simp
 | k+1,hk=>by
  obtain⟨h1,h2⟩:=Zo9 t k (by omega)
  have e:(List.range (k+1)).flatMap (chunk t)=(List.range k).flatMap (chunk t)++chunk t k:=by
   rw[List.range_succ,List.flatMap_append]
   simp
  have hl:(chunk t k).length=64:=Zhm _
  rw[e]
  refine⟨?_,by rw[List.length_append,h2,hl];omega⟩
  rw[List.take_append,h1,h2]
  rw[show 64*(k+1)=64*k+64 by omega,List.take_add]
  congr 1
  unfold chunk pad
  rw[List.take_append,List.take_take,List.length_take,List.length_drop]
  by_cases hc:64*k+64<=t.length
  ·rw[show 64-(t.length-64*k)=0 by omega,List.replicate_zero,List.take_nil,List.append_nil]
   congr 1
   omega
  ·rw[show t.length-64*k-min 64 (t.length-64*k)=0 by omega,List.take_zero,List.append_nil,List.take_of_length_le (by rw[List.length_drop];omega),List.take_of_length_le (by rw[List.length_drop];omega)]
theorem Z2b(t:List UInt8):((List.range (Zfv t.length)).flatMap (chunk t)).take t.length=t:=by
 have h1:Zfv t.length*64<=t.length+63:=by unfold Zfv;omega
 rw[(Zo9 t (Zfv t.length) h1).1,List.take_of_length_le (by unfold Zfv;omega)]
def Zd6(qY size:Nat):List UInt8:=[UInt8.ofNat qY,UInt8.ofNat (size / 256),UInt8.ofNat size]
def Z3s(x:List UInt8)(qY size:Nat):Prop:=∃ a b c,x[0]? = some a/\x[1]? = some b/\x[2]? = some c/\a.toNat % 2=qY/\b.toNat*256+c.toNat=size
theorem Ybd(qY size:Nat)(h1:qY<=1)(h2:size<65536):Z3s (pad (Zd6 qY size)) qY size:=by
 refine⟨UInt8.ofNat qY,UInt8.ofNat (size / 256),UInt8.ofNat size,rfl,rfl,rfl,?_,?_⟩
 ·rw[UInt8.toNat_ofNat']
  omega
 ·rw[UInt8.toNat_ofNat',UInt8.toNat_ofNat']
  omega
structure Znh (S:List (List UInt8)) (n qY:Nat) (t:List UInt8):Prop where
 len:S.length=n
 all:∀ x∈S,x.length=64
 one:qY<=1
 head:∃ x,S[0]? = some x/\Z3s x qY t.length
 fits:Zfv t.length<=(n-1) / 2
 small:t.length<65536
 at_ : ∀ i,i<Zfv t.length->S[1+qY*((n-1) / 2)+i]? = some (chunk t i)
theorem Znh.off{S T:List (List UInt8)}{n qY:Nat}{t:List UInt8}(h:Znh S n qY t)(hl:T.length=S.length)(ha:∀ x∈T,x.length=64)(h0:T[0]? = S[0]?)(hj:∀ i,i<(n-1) / 2->T[1+qY*((n-1) / 2)+i]? = S[1+qY*((n-1) / 2)+i]?):Znh T n qY t:=
 ⟨hl.trans h.len,ha,h.one,by rw[h0];exact h.head,h.fits,h.small,fun i hi=>(hj i (by have:=h.fits;omega)).trans (h.at_ i hi)⟩
theorem Zrw(n:Nat)(hn:16<=n):Znh (List.replicate n (List.replicate 64 0)) n 0 []:=
 ⟨by simp,by intro x hx;rw[List.eq_of_mem_replicate hx];simp,by omega,⟨List.replicate 64 0,by rw[List.getElem?_replicate,if_pos (by omega)],0,0,0,rfl,rfl,rfl,rfl,rfl⟩,by simp[Zfv],by simp,by intro i hi;simp[Zfv] at hi⟩
def Zkx(n qY:Nat)(t:List UInt8)(k:Nat):List (Nat × List UInt8):=(List.range k).map fun i=>(1+qY*((n-1) / 2)+i,chunk t i)
def Dk.body(d:Dk)(n qY:Nat)(t:List UInt8):Nat->Dk
 | 0=>d
 | k+1=>(d.body n qY t k).write (1+qY*((n-1) / 2)+k) (chunk t k)
def Dk.save(d:Dk)(n qY:Nat)(t:List UInt8):Dk:=(((d.body n qY t (Zfv t.length)).sync).write 0 (pad (Zd6 qY t.length))).sync
theorem Zmh(n qY:Nat)(t:List UInt8)(k:Nat):Zkx n qY t (k+1)=Zkx n qY t k++[(1+qY*((n-1) / 2)+k,chunk t k)]:=by
 unfold Zkx
 rw[List.range_succ,List.map_append]
 rfl
theorem Zij{n qY k:Nat}{t:List UInt8}{w:Nat × List UInt8}(h:w∈Zkx n qY t k):∃ i,i<k/\w=(1+qY*((n-1) / 2)+i,chunk t i):=by
 unfold Zkx at h
 obtain⟨i,hi,rfl⟩:=List.mem_map.1 h
 exact⟨i,List.mem_range.1 hi,rfl⟩
def Mid(S:List (List UInt8))(n qY:Nat)(t:List UInt8)(k:Nat)(d:Dk):Prop:=
 d.held=S/\d.seen.length=S.length/\((d.dead=false/\d.late=Zkx n qY t k/\d.seen=Zds (Zkx n qY t k) S)\/(d.dead=true/\∃ j,j<=k/\d.late=Zkx n qY t j))
theorem Zzg{S:List (List UInt8)}{n qY:Nat}{t:List UInt8}{d:Dk}(h1:d.held=S)(h2:d.seen=S)(h3:d.late=[])(h4:d.dead=false):∀ k,Mid S n qY t k (d.body n qY t k)
 | 0=>⟨h1,by rw[show d.body n qY t 0=d from rfl,h2],.inl ⟨h4,h3,h2⟩⟩
 | k+1=>by
  obtain⟨k1,k2,k3⟩:=Zzg (n:=n) (qY:=qY) (t:=t) h1 h2 h3 h4 k
  show Mid S n qY t (k+1) ((d.body n qY t k).write _ _)
  generalize d.body n qY t k=e at k1 k2 k3
  unfold Dk.write
  by_cases hg:(e.dead || e.left == 0)=true
  ·rw[if_pos hg]
   refine⟨k1,by simpa using k2,.inr ⟨rfl,?_⟩⟩
   rcases k3 with ⟨_,k4,_⟩|⟨_,j,hj,k4⟩
   ·exact⟨k,by omega,k4⟩
   ·exact⟨j,by omega,k4⟩
  ·rw[if_neg hg]
   have hd:e.dead=false:=by
    cases he:e.dead with
    | false=>rfl
    | true=>rw[he] at hg;simp at hg
   rcases k3 with ⟨_,k4,k5⟩|⟨k4,_⟩
   ·refine⟨k1,by simpa using k2,.inl ⟨rfl,?_,?_⟩⟩
    ·show e.late ++ _ = _
     rw[k4,Zmh]
    ·show e.seen.set _ _ = _
     rw[k5,Zmh,Zkl]
   ·rw[k4] at hd;cases hd
theorem Zou{S:List (List UInt8)}{n qY half' k:Nat}{t t':List UInt8}(h:Znh S n qY t)(hh:half'=1-qY)(hk:k<=(n-1) / 2)(sel:Nat->Bool):Znh (Zbd sel 0 (Zkx n half' t' k) S) n qY t:=by
 have h1:=h.one
 refine h.off (Zdx _ _ _ _) (Zik _ 64 _ _ _ (fun w hw=>?_) h.all) (Zj2 _ _ _ _ _ (fun w hw=>?_)) (fun i hi=>Zj2 _ _ _ _ _ (fun w hw=>?_))
 ·obtain⟨i,_,rfl⟩:=Zij hw
  exact Zhm _
 ·obtain⟨i,_,rfl⟩:=Zij hw
  show 1+half'*((n-1) / 2)+i≠0
  omega
 ·obtain⟨m,hm,rfl⟩:=Zij hw
  show 1+half'*((n-1) / 2)+m≠1+qY*((n-1) / 2)+i
  rcases Nat.lt_or_ge qY 1 with h0|h0
  ·have e:qY=0:=by omega
   subst e
   subst hh
   simp only[Nat.zero_mul,Nat.one_mul,Nat.sub_zero]
   omega
  ·have e:qY=1:=by omega
   subst e
   subst hh
   simp only[Nat.zero_mul,Nat.one_mul,Nat.sub_self]
   omega
theorem Z3r(n qY:Nat)(t:List UInt8)(S:List (List UInt8)):∀ (k i:Nat),i<k->1+qY*((n-1) / 2)+k<=S.length->(Zds (Zkx n qY t k) S)[1+qY*((n-1) / 2)+i]? = some (chunk t i)
 | 0,i,hi,_=>by omega
 | k+1,i,hi,hl=>by
  rw[Zmh,Zkl]
  by_cases e:i=k
  ·subst e
   rw[List.getElem?_set_self (by rw[Zd7];omega)]
  ·rw[List.getElem?_set_ne (by omega)]
   exact Z3r n qY t S k i (by omega) (by omega)
theorem Z72{S:List (List UInt8)}{n qY:Nat}{t t':List UInt8}(h:Znh S n qY t)(hn:1<=n)(hf:Zfv t'.length<=(n-1) / 2)(hs:t'.length<65536):
 Znh ((Zds (Zkx n (1-qY) t' (Zfv t'.length)) S).set 0 (pad (Zd6 (1-qY) t'.length))) n (1-qY) t':=by
 have h1:=h.one
 have hl:=h.len
 refine⟨by rw[List.length_set,Zd7,hl],?_,by omega,⟨_,List.getElem?_set_self (by rw[Zd7];omega),Ybd _ _ (by omega) hs⟩,hf,hs,fun i hi=>?_⟩
 ·intro x hx
  rcases List.mem_or_eq_of_mem_set hx with h2|h2
  ·rw[<-Zkn _ 0] at h2
   exact Zik _ 64 _ _ _ (fun w hw=>by obtain⟨i,_,rfl⟩:=Zij hw;exact Zhm _) h.all x h2
  ·rw[h2];exact Zhm _
 ·rw[List.getElem?_set_ne (by omega)]
  refine Z3r n _ t' S _ i hi ?_
  rcases Nat.lt_or_ge qY 1 with h0|h0
  ·have e:qY=0:=by omega
   subst e
   simp only[Nat.one_mul,Nat.sub_zero]
   omega
  ·have e:qY=1:=by omega
   subst e
   simp only[Nat.zero_mul,Nat.sub_self]
   omega
theorem Z26{f:Dk}(h:f.dead=true)(n:Nat)(x:List UInt8):f.write n x={ f with seen:=f.seen.set n x,dead:=true,left:=if 0<f.left then f.left-1 else f.left }:=by
 unfold Dk.write
 rw[if_pos (by rw[h];rfl)]
theorem Zuv{f:Dk}(h:f.dead=true):f.sync={ f with dead:=true,left:=if 0<f.left then f.left-1 else f.left }:=by
 unfold Dk.sync
 rw[if_pos (by rw[h];rfl)]
structure Rest (d:Dk) (n qY:Nat) (t:List UInt8):Prop where
 alive:d.dead=false
 late:d.late=[]
 same:d.held=d.seen
 lies:Znh d.seen n qY t
structure Yab (d:Dk) (n:Nat) (P:Nat->List UInt8->Prop):Prop where
 dead:d.dead=true
 seen:d.seen.length=n
 lies:∀ sel,∃ qY t,P qY t/\Znh (Zbd sel 0 d.late d.held) n qY t
 few:d.late.length<=n
 size:∀ w∈d.late,w.1<n/\w.2.length=64
theorem Yb5{d:Dk}{n qY:Nat}{t t':List UInt8}(h:Rest d n qY t)(hn:1<=n)(hf:Zfv t'.length<=(n-1) / 2)(hs:t'.length<65536):
 Rest (d.save n (1-qY) t') n (1-qY) t'\/Yab (d.save n (1-qY) t') n (fun a b=>(a=qY/\b=t)\/(a=1-qY/\b=t')):=by
 have h1:=h.lies.one
 have hl:=h.lies.len
 have hbs:∀ j,j<=Zfv t'.length->∀ w∈Zkx n (1-qY) t' j,w.1<n/\w.2.length=64:=fun j hj w hw=>by
  obtain⟨i,hi,rfl⟩:=Zij hw
  refine⟨?_,Zhm _⟩
  show 1+(1-qY)*((n-1) / 2)+i<n
  rcases Nat.lt_or_ge qY 1 with h0|h0
  ·have e:qY=0:=by omega
   subst e
   simp only[Nat.one_mul,Nat.sub_zero]
   omega
  ·have e:qY=1:=by omega
   subst e
   simp only[Nat.zero_mul,Nat.sub_self]
   omega
 have hbl:∀ j,(Zkx n (1-qY) t' j).length=j:=fun j=>by unfold Zkx;simp
 unfold Dk.save
 obtain⟨k1,k2,k3⟩:=Zzg (S:=d.seen) (n:=n) (qY:=1-qY) (t:=t') h.same rfl h.late h.alive (Zfv t'.length)
 generalize d.body n (1-qY) t' (Zfv t'.length)=e at k1 k2 k3
 have hdead:∀ (f:Dk) (x:List UInt8),f.dead=true->(f.write 0 x).sync.dead=true/\(f.write 0 x).sync.late=f.late/\(f.write 0 x).sync.held=f.held/\(f.write 0 x).sync.seen.length=f.seen.length:=fun f x hf=>by
  rw[Z26 hf,Zuv rfl]
  exact⟨rfl,rfl,rfl,by simp⟩
 rcases k3 with ⟨ka,kb,kc⟩|⟨ka,j,hj,kb⟩
 ·by_cases hg:(e.dead || e.left == 0)=true
  ·have es:e.sync={ e with dead:=true,left:=if 0<e.left then e.left-1 else e.left }:=by unfold Dk.sync;rw[if_pos hg]
   rw[es]
   obtain⟨q1,q2,q3,q4⟩:=hdead { e with dead:=true,left:=if 0<e.left then e.left-1 else e.left } (pad (Zd6 (1-qY) t'.length)) rfl
   refine .inr ⟨q1,by rw[q4];exact k2.trans hl,fun sel=>⟨qY,t,.inl ⟨rfl,rfl⟩,?_⟩,?_,?_⟩
   ·rw[q2,q3]
    show Znh (Zbd sel 0 e.late e.held) n qY t
    rw[kb,k1]
    exact Zou h.lies rfl hf sel
   ·rw[q2]
    show e.late.length<=n
    rw[kb,hbl]
    omega
   ·rw[q2]
    show ∀ w∈e.late,_
    rw[kb]
    exact hbs _ ler
  ·have es:e.sync={ e with held:=Zds e.late e.held,late:=[],dead:=false,left:=if 0<e.left then e.left-1 else e.left }:=by unfold Dk.sync;rw[if_neg hg]
   rw[es]
   generalize hL:(if 0<e.left then e.left-1 else e.left)=L
   have hS:Zds e.late e.held=e.seen:=by rw[kb,k1,kc]
   rw[hS]
   have hmid:Znh e.seen n qY t:=by
    rw[kc,<-Zkn _ 0]
    exact Zou h.lies rfl hf _
   have hnew:Znh (e.seen.set 0 (pad (Zd6 (1-qY) t'.length))) n (1-qY) t':=by
    rw[kc]
    exact Z72 h.lies hn hf hs
   by_cases hg2:(false || L == 0)=true
   ·have ew:Dk.write { e with held:=e.seen,late:=[],dead:=false,left:=L } 0 (pad (Zd6 (1-qY) t'.length))={ e with held:=e.seen,late:=[],seen:=e.seen.set 0 (pad (Zd6 (1-qY) t'.length)),dead:=true,left:=if 0<L then L-1 else L }:=by
     unfold Dk.write
     rw[if_pos hg2]
    rw[ew]
    generalize (if 0<L then L-1 else L)=L2
    have es2:Dk.sync { e with held:=e.seen,late:=[],seen:=e.seen.set 0 (pad (Zd6 (1-qY) t'.length)),dead:=true,left:=L2 }={ e with held:=e.seen,late:=[],seen:=e.seen.set 0 (pad (Zd6 (1-qY) t'.length)),dead:=true,left:=if 0<L2 then L2-1 else L2 }:=by
     exact Zuv rfl
    rw[es2]
    exact .inr ⟨rfl,by simpa using hmid.len,fun sel=>⟨qY,t,.inl ⟨rfl,rfl⟩,hmid⟩,Nat.zero_le _,fun w hw=>by cases hw⟩
   ·have ew:Dk.write { e with held:=e.seen,late:=[],dead:=false,left:=L } 0 (pad (Zd6 (1-qY) t'.length))={ e with held:=e.seen,late:=[(0,pad (Zd6 (1-qY) t'.length))],seen:=e.seen.set 0 (pad (Zd6 (1-qY) t'.length)),dead:=false,left:=if 0<L then L-1 else L }:=by
     unfold Dk.write
     rw[if_neg hg2]
     rfl
    rw[ew]
    generalize (if 0<L then L-1 else L)=L2
    by_cases hg3:(false || L2 == 0)=true
    ·have es2:Dk.sync { e with held:=e.seen,late:=[(0,pad (Zd6 (1-qY) t'.length))],seen:=e.seen.set 0 (pad (Zd6 (1-qY) t'.length)),dead:=false,left:=L2 }={ e with held:=e.seen,late:=[(0,pad (Zd6 (1-qY) t'.length))],seen:=e.seen.set 0 (pad (Zd6 (1-qY) t'.length)),dead:=true,left:=if 0<L2 then L2-1 else L2 }:=by
      unfold Dk.sync
      rw[if_pos hg3]
     rw[es2]
     refine .inr ⟨rfl,by simpa using hmid.len,fun sel=>?_,by simpa using hn,fun w hw=>by simp only[List.mem_singleton] at hw;subst hw;exact⟨by show 0<n;omega,Zhm _⟩⟩
     show ∃ half_1 t_1,_/\Znh (Zbd sel 0 [(0,pad (Zd6 (1-qY) t'.length))] e.seen) n half_1 t_1
     unfold Zbd Zbd
     by_cases hse:sel 0=true
     ·rw[if_pos hse]
      exact⟨_,_,.inr ⟨rfl,rfl⟩,hnew⟩
     ·rw[if_neg hse]
      exact⟨_,_,.inl ⟨rfl,rfl⟩,hmid⟩
    ·have es2:Dk.sync { e with held:=e.seen,late:=[(0,pad (Zd6 (1-qY) t'.length))],seen:=e.seen.set 0 (pad (Zd6 (1-qY) t'.length)),dead:=false,left:=L2 }={ e with held:=e.seen.set 0 (pad (Zd6 (1-qY) t'.length)),late:=[],seen:=e.seen.set 0 (pad (Zd6 (1-qY) t'.length)),dead:=false,left:=if 0<L2 then L2-1 else L2 }:=by
      unfold Dk.sync
      rw[if_neg hg3]
      rfl
     rw[es2]
     exact .inl ⟨rfl,rfl,rfl,hnew⟩
 ·have es:e.sync={ e with dead:=true,left:=if 0<e.left then e.left-1 else e.left }:=by unfold Dk.sync;rw[if_pos (by rw[ka];rfl)]
  rw[es]
  obtain⟨q1,q2,q3,q4⟩:=hdead { e with dead:=true,left:=if 0<e.left then e.left-1 else e.left } (pad (Zd6 (1-qY) t'.length)) rfl
  refine .inr ⟨q1,by rw[q4];exact k2.trans hl,fun sel=>⟨qY,t,.inl ⟨rfl,rfl⟩,?_⟩,?_,?_⟩
  ·rw[q2,q3]
   show Znh (Zbd sel 0 e.late e.held) n qY t
   rw[kb,k1]
   exact Zou h.lies rfl (by omega) sel
  ·rw[q2]
   show e.late.length<=n
   rw[kb,hbl]
   omega
  ·rw[q2]
   show ∀ w∈e.late,_
   rw[kb]
   exact hbs _ hj
end M
theorem ges{α:Type}{a:Array α}{i:Nat}{b:α}:a[i]? = some b↔∃ h:i<a.size,a[i]=b:=Array.getElem?_eq_some_iff
structure Chg (F:Nat->Prop) (w w':World):Prop where
 os:w'.os=w.os
 tape:w'.tape=w.tape
 output:w'.output=w.output
 size:w.heap.size<=w'.heap.size
 block:∀ k,k<w.heap.size->¬ F k->w'.heap[k]? = w.heap[k]?
theorem Chg.refl(F:Nat->Prop)(w:World):Chg F w w:=⟨rfl,rfl,rfl,Nat.le_refl _,fun _ _ _=>rfl⟩
theorem Chg.below{F:Nat->Prop}{w w':World}(h:Below w.heap.size w w'):Chg F w w':=⟨h.os,h.tape,h.output,h.size,fun k hk _=>h.block k hk⟩
theorem Chg.grown{F:Nat->Prop}{w w':World}{row:Option Nat}(h:w.grownBy w' row)(hF:∀ k,row=some k->k<w.heap.size->F k):Chg F w w':=
 ⟨h.os,h.tape,h.output,h.size,fun k hk hn=>h.block k hk (fun e=>hn (hF k e.symm hk))⟩
theorem Chg.then{F G:Nat->Prop}{u w w':World}(h:Chg F u w)(h':Chg G w w')(hG:∀ k,k<u.heap.size->G k->F k):Chg F u w':=
 ⟨h'.os.trans h.os,h'.tape.trans h.tape,h'.output.trans h.output,Nat.le_trans h.size h'.size,fun k hk hn=>(h'.block k (Nat.lt_of_lt_of_le hk h.size) (fun g=>hn (hG k hk g))).trans (h.block k hk hn)⟩
theorem Chg.weak{F G:Nat->Prop}{w w':World}(h:Chg F w w')(hG:∀ k,k<w.heap.size->F k->G k):Chg G w w':=
 ⟨h.os,h.tape,h.output,h.size,fun k hk hn=>h.block k hk (fun f=>hn (hG k hk f))⟩
theorem Chg.cell{F:Nat->Prop}{w w':World}(h:Chg F w w'){a:Addr}{v:Value}(hc:w.cell? a=some v)(hn:¬ F a.block):w'.cell? a=some v:=
 (World.cell?_of_block (h.block a.block (World.block_lt_of_cell? _ _ hc) hn)).trans hc
theorem Chg.own{F:Nat->Prop}{w w':World}(h:Chg F w w'){base e size n:Nat}{v:Value}{xs:List Value}(ho:w.ownsRow base e size v n xs)(hn:∀ g,v.ownBlock=some g->¬ F g):w'.ownsRow base e size v n xs:=by
 obtain⟨h1,⟨rfl,h2⟩|⟨g,cap,cur,rfl,h2,h3,h4⟩⟩:=ho
 ·exact⟨h1,.inl ⟨rfl,h2⟩⟩
 ·exact⟨h1,.inr ⟨g,cap,cur,rfl,h2,(h.block g (Array.getElem?_eq_some_iff.1 h3).1 (hn g rfl)).trans h3,h4⟩⟩
def Ztd(F:Nat->Prop)(w:World):Prop:=∀ k,F k->∀ cur fz,w.heap[k]?≠some (.cells cur 5 fz)
theorem Sec.chg{F:Nat->Prop}{w w':World}{base:Nat}{v:Value}{x:List UInt8}(h:Sec w base v x)(hc:Chg F w w')(hF:Ztd F w):Sec w' base v x:=by
 obtain⟨g,c,e,h4,h5,h1,⟨cur,h2⟩,h6,h3⟩:=h
 have hb:=hc.block g (Array.getElem?_eq_some_iff.1 h2).1 (fun f=>hF g f _ _ h2)
 exact⟨g,c,e,h4,h5,h1,⟨cur,hb.trans h2⟩,fun j u hu=>(World.cell?_of_block (a:=⟨g,j,none⟩) hb).trans (h6 j u hu),h3⟩
theorem Zg0.chg{F:Nat->Prop}{w w':World}{base:Nat}{v:Value}{l:List (List UInt8)}(h:Zg0 w base v l)(hc:Chg F w w')(hF:Ztd F w)(hn:∀ g,v.ownBlock=some g->¬ F g):Zg0 w' base v l:=by
 obtain⟨vs,h1,h2,h3⟩:=h
 refine⟨vs,hc.own h1 hn,h2,fun i hi=>?_⟩
 obtain⟨u,k1,k2⟩:=h3 i hi
 exact⟨u,k1,k2.chg hc hF⟩
theorem Zg0.put{w:World}{base b c:Nat}{n:Nat}{l:List (List UInt8)}{a:Option Addr}(h:Zg0 w base (.slice a l.length c) l)(ha:a=some ⟨b,0,none⟩)(u:Value)(x:List UInt8)(hu:Sec w base u x):
 Zg0 (w.setCell ⟨b,n,none⟩ u) base (.slice a l.length c) (l.set n x)/\w.grownBy (w.setCell ⟨b,n,none⟩ u) (some b):=by
 subst ha
 have hno:=h.no_u8
 obtain⟨vs,h1,h2,h3⟩:=h
 obtain⟨k1,k2⟩:=h1.stored n u
 have hr:∀ j,some b=some j->∀ cur fz,w.heap[j]?≠some (.cells cur 5 fz):=fun j hj=>hno j (by cases hj;rfl)
 refine⟨⟨vs.set n u,by rw[List.length_set];exact k1,by rw[List.length_set,List.length_set,h2],fun i hi=>?_⟩,k2⟩
 rw[List.length_set] at hi
 by_cases e:i=n
 ·subst e
  exact⟨u,List.getElem?_set_self (by omega),by rw[List.getElem_set_self];exact hu.kept k2 hr⟩
 ·obtain⟨y,m1,m2⟩:=h3 i hi
  refine⟨y,by rw[List.getElem?_set_ne (by omega)];exact m1,?_⟩
  rw[List.getElem_set_ne (by omega)]
  exact m2.kept k2 hr
def Ze0:List (Nat × List UInt8)->List Value->List Value
 | p :: l,u :: us=>.int .i64 p.1 :: u :: Ze0 l us
 | _,_=>[]
theorem Zju:∀ (l:List (Nat × List UInt8)) (us:List Value) (p:Nat × List UInt8) (u:Value),us.length=l.length->Ze0 (l++[p]) (us++[u])=Ze0 l us++[.int .i64 p.1,u]
 | [],[],p,u,_=>rfl
 | a :: l,b :: us,p,u,h=>by
  simp only[List.cons_append,Ze0]
  rw[Zju l us p u (by simpa using h)]
 | [],_ :: _,_,_,h=>by simp at h
 | _ :: _,[],_,_,h=>by simp at h
theorem Zmq:∀ (l:List (Nat × List UInt8)) (us:List Value) (i:Nat) (p:Nat × List UInt8) (u:Value),l[i]? = some p->us[i]? = some u->(Ze0 l us)[i*2]? = some (.int .i64 p.1)/\(Ze0 l us)[i*2+1]? = some u
 | a :: l,b :: us,0,p,u,h1,h2=>by simp at h1 h2;subst h1 h2;exact⟨rfl,rfl⟩
 | a :: l,b :: us,i+1,p,u,h1,h2=>by
  have:=Zmq l us i p u (by simpa using h1) (by simpa using h2)
  rw[show (i+1)*2=i*2+1+1 by omega]
  simpa [Ze0] using this
 | [],_,i,p,u,h1,_=>by simp at h1
 | _ :: _,[],i,p,u,_,h2=>by simp at h2
def Zfh(w:World)(base:Nat)(v:Value)(l:List (Nat × List UInt8)):Prop:=(l=[]->v.ownBlock=.none)/\∃ us,us.length=l.length/\w.ownsRow base 146 2 v l.length (Ze0 l us)/\∀ i (hi:i<l.length),∃ u,us[i]? = some u/\Sec w base u l[i].2
theorem Zfh.none(w:World)(base:Nat):Zfh w base (.slice .none 0 0) []:=⟨fun _=>rfl,[],rfl,World.ownsRow_nil _ _ _ _,fun i hi=>by simp at hi⟩
theorem Zfh.form{w:World}{base:Nat}{v:Value}{l:List (Nat × List UInt8)}(h:Zfh w base v l):∃ a c,v=.slice a l.length c:=by
 obtain⟨_,us,_,h1,_⟩:=h
 exact Zac h1
theorem Zfh.lt{w:World}{base:Nat}{v:Value}{l:List (Nat × List UInt8)}(h:Zfh w base v l):∀ g,v.ownBlock=some g->base<=g/\g<w.heap.size:=by
 obtain⟨_,us,_,h1,_⟩:=h
 exact fun g hg=>h1.lt g hg
theorem Zfh.chg{F:Nat->Prop}{w w':World}{base:Nat}{v:Value}{l:List (Nat × List UInt8)}(h:Zfh w base v l)(hc:Chg F w w')(hF:Ztd F w)(hn:∀ g,v.ownBlock=some g->¬ F g):Zfh w' base v l:=by
 obtain⟨h0,us,h1,h2,h3⟩:=h
 refine⟨h0,us,h1,hc.own h2 hn,fun i hi=>?_⟩
 obtain⟨u,k1,k2⟩:=h3 i hi
 exact⟨u,k1,k2.chg hc hF⟩
theorem Zg0.type{w:World}{base:Nat}{v:Value}{l:List (List UInt8)}(h:Zg0 w base v l):∀ g,v.ownBlock=some g->∃ cur,w.heap[g]? = some (.cells cur 131 (0,0)):=by
 obtain⟨vs,h1,_⟩:=h
 obtain⟨_,⟨rfl,_⟩|⟨g,cap,cur,rfl,_,hg,_⟩⟩:=h1
 ·intro g h;cases h
 ·intro g' h;cases h;exact⟨cur,hg⟩
theorem Zfh.type{w:World}{base:Nat}{v:Value}{l:List (Nat × List UInt8)}(h:Zfh w base v l):∀ g,v.ownBlock=some g->∃ cur,w.heap[g]? = some (.cells cur 146 (0,0)):=by
 obtain⟨_,us,_,h1,_⟩:=h
 obtain⟨_,⟨rfl,_⟩|⟨g,cap,cur,rfl,_,hg,_⟩⟩:=h1
 ·intro g h;cases h
 ·intro g' h;cases h;exact⟨cur,hg⟩
structure Zai (w:World) (d:Nat) (hv sv lv:Value) (D:M.Dk):Prop where
 blk:w.heap[d]? = some (.cells #[hv,sv,lv,.int .i64 D.left,.bool D.dead] 103 (0,0))
 held:Zg0 w (d+1) hv D.held
 seen:Zg0 w (d+1) sv D.seen
 late:Zfh w (d+1) lv D.late
 apart:∀ g,hv.ownBlock=some g->sv.ownBlock≠some g
def Zb1(d:Nat)(hv sv lv:Value)(k:Nat):Prop:=k=d\/hv.ownBlock=some k\/sv.ownBlock=some k\/lv.ownBlock=some k
theorem Zai.chg{F:Nat->Prop}{w w':World}{d:Nat}{hv sv lv:Value}{D:M.Dk}(h:Zai w d hv sv lv D)(hc:Chg F w w')(hF:Ztd F w)(hn:∀ k,Zb1 d hv sv lv k->¬ F k):Zai w' d hv sv lv D:=
 ⟨(hc.block d (Array.getElem?_eq_some_iff.1 h.blk).1 (hn d (.inl rfl))).trans h.blk,h.held.chg hc hF (fun g hg=>hn g (.inr (.inl hg))),h.seen.chg hc hF (fun g hg=>hn g (.inr (.inr (.inl hg)))),h.late.chg hc hF (fun g hg=>hn g (.inr (.inr (.inr hg)))),h.apart⟩
theorem Zwd(w:World):Ztd (fun _=>False) w:=fun _ h=>h.elim
theorem Zai.below{w w':World}{d:Nat}{hv sv lv:Value}{D:M.Dk}(h:Zai w d hv sv lv D)(hb:Below w.heap.size w w'):Zai w' d hv sv lv D:=
 h.chg (Chg.below (F:=fun _=>False) hb) (Zwd w) (fun _ _ f=>f)
theorem Zk8{w w':World}{g:Nat}{o:Obj}(h:w.heap[g]? = some o){row:Option Nat}(hg:w.grownBy w' row)(hn:some g≠row):w'.heap[g]? = some o:=(hg.block g (Array.getElem?_eq_some_iff.1 h).1 hn).trans h
theorem Zai.ctl{w w':World}{d:Nat}{hv sv lv:Value}{D:M.Dk}(h:Zai w d hv sv lv D)(hg:w.grownBy w' (some d))(left:Int)(dead:Bool)(hb:w'.heap[d]? = some (.cells #[hv,sv,lv,.int .i64 left,.bool dead] 103 (0,0))):Zai w' d hv sv lv { D with left:=left,dead:=dead }:=by
 have hc:Chg (fun k=>k=d) w w':=Chg.grown hg (fun k e _=>(Option.some.inj e).symm)
 have hF:Ztd (fun k=>k=d) w:=fun k e cur fz=>by subst e;rw[h.blk];intro e;cases e
 have hne:∀ (v:Value),(∀ g,v.ownBlock=some g->d+1<=g/\g<w.heap.size)->∀ g,v.ownBlock=some g->¬ g=d:=fun v hl g hg e=>by have:=hl g hg;omega
 exact⟨hb,h.held.chg hc hF (hne _ h.held.lt),h.seen.chg hc hF (hne _ h.seen.lt),h.late.chg hc hF (hne _ h.late.lt),h.apart⟩
theorem Zai.putSeen{w:World}{d b c n:Nat}{hv lv:Value}{D:M.Dk}(h:Zai w d hv (.slice (some ⟨b,0,none⟩) D.seen.length c) lv D)(u:Value)(x:List UInt8)(hu:Sec w (d+1) u x):
 Zai (w.setCell ⟨b,n,none⟩ u) d hv (.slice (some ⟨b,0,none⟩) D.seen.length c) lv { D with seen:=D.seen.set n x }/\w.grownBy (w.setCell ⟨b,n,none⟩ u) (some b):=by
 obtain⟨k1,k2⟩:=h.seen.put (n:=n) rfl u x hu
 have hb:=h.seen.lt b rfl
 obtain⟨cur,ht⟩:=h.seen.type b rfl
 have hc:Chg (fun k=>k=b) w (w.setCell ⟨b,n,none⟩ u):=Chg.grown k2 (fun k e _=>(Option.some.inj e).symm)
 have hF:Ztd (fun k=>k=b) w:=fun k e cur fz=>by subst e;rw[ht];intro e;cases e
 refine⟨⟨Zk8 h.blk k2 (fun e=>by have:=Option.some.inj e;omega),h.held.chg hc hF (fun g hg e=>?_),k1,h.late.chg hc hF (fun g hg e=>?_),h.apart⟩,k2⟩
 ·subst e
  exact h.apart g hg rfl
 ·subst e
  obtain⟨c2,h2⟩:=h.late.type g hg
  rw[ht] at h2
  cases h2
theorem Zai.putHeld{w:World}{d b c n:Nat}{sv lv:Value}{D:M.Dk}(h:Zai w d (.slice (some ⟨b,0,none⟩) D.held.length c) sv lv D)(u:Value)(x:List UInt8)(hu:Sec w (d+1) u x):
 Zai (w.setCell ⟨b,n,none⟩ u) d (.slice (some ⟨b,0,none⟩) D.held.length c) sv lv { D with held:=D.held.set n x }/\w.grownBy (w.setCell ⟨b,n,none⟩ u) (some b):=by
 obtain⟨k1,k2⟩:=h.held.put (n:=n) rfl u x hu
 have hb:=h.held.lt b rfl
 obtain⟨cur,ht⟩:=h.held.type b rfl
 have hc:Chg (fun k=>k=b) w (w.setCell ⟨b,n,none⟩ u):=Chg.grown k2 (fun k e _=>(Option.some.inj e).symm)
 have hF:Ztd (fun k=>k=b) w:=fun k e cur fz=>by subst e;rw[ht];intro e;cases e
 refine⟨⟨Zk8 h.blk k2 (fun e=>by have:=Option.some.inj e;omega),k1,h.seen.chg hc hF (fun g hg e=>?_),h.late.chg hc hF (fun g hg e=>?_),h.apart⟩,k2⟩
 ·subst e
  exact h.apart g rfl hg
 ·subst e
  obtain⟨c2,h2⟩:=h.late.type g hg
  rw[ht] at h2
  cases h2
theorem Zai.noLate{w:World}{d:Nat}{hv sv lv:Value}{D:M.Dk}(h:Zai w d hv sv lv D):Zai (w.setCell ⟨d,2,none⟩ (.slice none 0 0)) d hv sv (.slice none 0 0) { D with late:=[] }/\w.grownBy (w.setCell ⟨d,2,none⟩ (.slice none 0 0)) (some d):=by
 have hg:w.grownBy (w.setCell ⟨d,2,none⟩ (.slice none 0 0)) (some d):=⟨rfl,rfl,rfl,by simp,fun k _ hk=>Below.heap_setCell _ _ _ _ (fun e=>hk (by rw[e]))⟩
 have hc:Chg (fun k=>k=d) w (w.setCell ⟨d,2,none⟩ (.slice none 0 0)):=Chg.grown hg (fun k e _=>(Option.some.inj e).symm)
 have hF:Ztd (fun k=>k=d) w:=fun k e cur fz=>by subst e;rw[h.blk];intro e;cases e
 have hne:∀ (v:Value),(∀ g,v.ownBlock=some g->d+1<=g/\g<w.heap.size)->∀ g,v.ownBlock=some g->¬ g=d:=fun v hl g hg e=>by have:=hl g hg;omega
 exact⟨⟨heap_setCell_same w d 2 _ _ _ h.blk,h.held.chg hc hF (hne _ h.held.lt),h.seen.chg hc hF (hne _ h.seen.lt),Zfh.none _ _,h.apart⟩,hg⟩
end Go.Proofs.YtgnfknjopafngaaGreatDoor
