import Derived.Test.YtgnfknjopafngaaGreatDoorKtae
set_option maxRecDepth 100000
set_option maxHeartbeats 4000000
namespace Go.Proofs.YtgnfknjopafngaaGreatDoor
namespace M
def Clean:List UInt8->Prop
 | []=>False
 | [a]=>a≠10
 | a :: b :: r=>¬ (a=10/\b=10)/\Clean (b :: r)
theorem Clean.ne{t:List UInt8}(h:Clean t):t≠[]:=fun e=>by rw[e] at h;exact h
theorem Z0j:∀ (t cur rest:List UInt8) (n m:Nat),Clean t->(t++10 :: 10 :: rest).length<=n->rest.length<=m->Zjz [10,10] n cur (t++10 :: 10 :: rest)=(cur++t) :: Zjz [10,10] m [] rest
 | [],cur,rest,n,m,h,_,_=>h.elim
 | [a],cur,rest,n,m,h,hn,hm=>by
  have h1:a≠10:=h
  simp only[List.cons_append,List.nil_append,List.length_cons] at hn
  rw[List.singleton_append,Zip (by simp) n (n-1) cur (a :: 10 :: 10 :: rest) (by simp;omega) (by simp;omega) (by simp) (by simp[h1])]
  rw[List.take_succ_cons,List.take_zero,List.drop_succ_cons,List.drop_zero,Zsw (by simp) (n-1) m _ _ (by simp;omega) (by simpa using hm) (by simp) (by simp)]
  simp
 | a :: b :: r,cur,rest,n,m,h,hn,hm=>by
  obtain⟨h1,h2⟩:=h
  simp only[List.cons_append,List.length_cons] at hn
  have e:(a :: b :: r)++10 :: 10 :: rest=a :: ((b :: r)++10 :: 10 :: rest):=rfl
  rw[e,Zip (by simp) n (n-1) cur _ (by simp only[List.length_cons,List.length_append] at hn ⊢;omega) (by simp only[List.drop_succ_cons,List.drop_zero,List.length_cons,List.length_append] at hn ⊢;omega) (by simp) (by simpa using h1)]
  rw[List.take_succ_cons,List.take_zero,List.drop_succ_cons,List.drop_zero,Z0j (b :: r) (cur++[a]) rest (n-1) m h2 (by simp only[List.length_cons,List.length_append] at hn ⊢;omega) hm]
  simp
theorem Zy8:∀ (t cur:List UInt8) (n:Nat),Clean t->t.length<=n->Zjz [10,10] n cur t=[cur++t]
 | [],cur,n,h,_=>h.elim
 | [a],cur,n,_,_=>Zie n cur [a] (by simp)
 | a :: b :: r,cur,n,h,hn=>by
  obtain⟨h1,h2⟩:=h
  simp only[List.length_cons] at hn
  rw[Zip (by simp) n (n-1) cur _ (by simp;omega) (by simp;omega) (by simp) (by simpa using h1)]
  rw[List.take_succ_cons,List.take_zero,List.drop_succ_cons,List.drop_zero,Zy8 (b :: r) (cur++[a]) (n-1) h2 (by simp;omega)]
  simp
theorem Zus:∀ (l:List (List UInt8)),l≠[]->(∀ s∈l,Clean s)->Zcn (Zal [10,10] l) [10,10]=l
 | [],h,_=>absurd rfl h
 | [x],_,h=>by
  unfold Zcn
  rw[show Zal [10,10] [x]=x from rfl,Zy8 x [] _ (h x (by simp)) ler]
  rfl
 | x :: y :: r,_,h=>by
  have e:Zal [10,10] (x :: y :: r)=x++10 :: 10 :: Zal [10,10] (y :: r):=by simp[Zal]
  have ih:=Zus (y :: r) (by simp) (fun s hs=>h s (by simp[hs]))
  unfold Zcn at ih ⊢
  rw[e,Z0j x [] _ _ (Zal [10,10] (y :: r)).length (h x (by simp)) ler ler,ih]
  rfl
theorem Zq0:∀ (t:List UInt8),t≠[]->(10:UInt8) ∉ t->Clean t
 | [],h,_=>absurd rfl h
 | [a],_,h=>fun e=>h (by simp[e])
 | a :: b :: r,_,h=>⟨fun e=>h (by simp[e.1]),Zq0 (b :: r) (by simp) (fun e=>h (List.mem_cons_of_mem _ e))⟩
theorem Zwa:∀ (t r:List UInt8) (b:UInt8),t≠[]->(10:UInt8) ∉ t->b≠10->Clean (b :: r)->Clean (t++10 :: b :: r)
 | [],_,_,h,_,_,_=>absurd rfl h
 | [a],r,b,_,h,hb,hr=>⟨fun e=>h (by simp[e.1]),fun e=>hb e.2,hr⟩
 | a :: c :: t,r,b,_,h,hb,hr=>⟨fun e=>h (by simp[e.1]),Zwa (c :: t) r b (by simp) (fun e=>h (List.mem_cons_of_mem _ e)) hb hr⟩
theorem Zrv:∀ (l:List (List UInt8)),l≠[]->(∀ s∈l,s≠[]/\(10:UInt8) ∉ s)->Clean (Zal [10] l)/\∃ b r,Zal [10] l=b :: r/\b≠10
 | [],h,_=>absurd rfl h
 | [x],_,h=>by
  obtain⟨h1,h2⟩:=h x (by simp)
  refine⟨Zq0 x h1 h2,?_⟩
  cases x with
  | nil=>exact absurd rfl h1
  | cons b r=>exact⟨b,r,rfl,fun e=>h2 (by simp[e])⟩
 | x :: y :: r,_,h=>by
  obtain⟨h1,h2⟩:=h x (by simp)
  obtain⟨k1,b,s,k2,k3⟩:=Zrv (y :: r) (by simp) (fun s hs=>h s (by simp[hs]))
  have e:Zal [10] (x :: y :: r)=x++10 :: Zal [10] (y :: r):=by simp[Zal]
  rw[e]
  rw[k2] at k1 ⊢
  refine⟨Zwa x s b h1 h2 k3 k1,?_⟩
  cases x with
  | nil=>exact absurd rfl h1
  | cons c r=>exact⟨c,_,rfl,fun e=>h2 (by simp[e])⟩
theorem Z7i(p:Pk)(k:Nat):Zbw p k []=none:=by
 unfold Zbw
 split
 ·rfl
 ·rw[if_neg (fun h=>absurd h.1 (by decide)),if_neg (fun h=>absurd h.1 (by decide)),if_neg (fun h=>absurd h.1 (by decide))]
theorem Z0c:∀ (l:List (List UInt8)) (k:Nat) (p q:Pk),Zba l k p=.inr q->∀ x∈l,x≠[]
 | [],_,_,_,_,x,hx=>by cases hx
 | a :: l,k,p,q,h,x,hx=>by
  unfold Zba at h
  cases hp:Zbw p k a with
  | none=>rw[hp] at h;cases h
  | some p'=>
   rw[hp] at h
   rcases List.mem_cons.1 hx with rfl|hx
   ·intro e
    rw[e,Z7i] at hp
    cases hp
   ·exact Z0c l (k+1) p' q h x hx
theorem Zyl{s:List UInt8}{p:Pk}(h:Zcp s=.inr p):Clean (Zaz p):=by
 obtain⟨_,h,_⟩:=Zjo h
 have hb:=h
 generalize hs:Zaz p=t at h ⊢
 unfold Zcp at h
 split at h
 ·cases h
 ·split at h
  ·cases h
  ·rename_i q e
   cases h
   have hne:Zcn (trimS t) [10]≠[]:=fun e=>by have:=(Zbx (trimS t) [10]).1;rw[e] at this;simp at this
   obtain⟨hv,hpr,ht⟩:=Zj1 hne e
   have hlen:(Zaz { q with files:=Zcs q.files }).length=(Zaz q).length:=by
    unfold Zaz
    simp only[List.length_append]
    rw[Zms (Zjg q.files)]
   have hc:=(Zrv (Zcn (trimS t) [10]) hne (fun x hx=>⟨Z0c _ _ _ _ e x hx,Ycv _ _ ler x hx⟩)).1
   rw[Zjk] at hpr hc
   have:trimS t=t:=by
    rw[hs,hpr] at hlen
    unfold trimS at hlen ⊢
    split
    ·rename_i h1
     rw[if_pos h1] at hlen
     have:t≠[]:=fun e=>by rw[e] at h1;cases h1
     have:0<t.length:=List.length_pos_iff.2 this
     rw[List.length_dropLast] at hlen
     omega
    ·rfl
   rw[this] at hc
   exact hc
theorem Zrz{s:List UInt8}{p:Pk}(h:Zcp s=.inr p):11<=(Zaz p).length:=by
 obtain⟨_,h,_⟩:=Zjo h
 unfold Zcp at h
 split at h
 ·cases h
 ·split at h
  ·cases h
  ·rename_i q e
   cases h
   have hne:Zcn (trimS (Zaz { q with files:=Zcs q.files })) [10]≠[]:=fun e=>by have:=(Zbx (trimS (Zaz { q with files:=Zcs q.files })) [10]).1;rw[e] at this;simp at this
   obtain⟨hv,hpr,ht⟩:=Zj1 hne e
   have h1:q.name≠[]:=Z0m ht
   have h2:q.ver≠[]:=by
    unfold Zew at ht
    split at ht
    ·split at ht
     ·rename_i hc
      cases ht
      intro e2
      have h3:=hc.2.2
      rw[e2] at h3
      revert h3
      decide
     ·cases ht
    ·cases ht
   have k1:=List.length_pos_iff.2 h1
   have k2:=List.length_pos_iff.2 h2
   unfold Zaz
   simp only[List.length_append,List.length_cons,List.length_nil]
   omega
theorem Zv1:∀ (l:List (List UInt8)),(∀ s∈l,11<=s.length)->11*(Zal [10,10] l).length<=13*(l.map List.length).sum
 | [],_=>by simp[Zal]
 | [x],_=>by simp[Zal];omega
 | x :: y :: r,h=>by
  have ih:=Zv1 (y :: r) (fun s hs=>h s (by simp[hs]))
  have hx:=h x (by simp)
  have e:Zal [10,10] (x :: y :: r)=x++[10,10]++Zal [10,10] (y :: r):=rfl
  rw[e,List.map_cons,List.sum_cons]
  simp only[List.length_append,List.length_cons,List.length_nil]
  omega
theorem Z3l{l:List (List UInt8)}(h:∀ s∈l,Clean s):Zal [10,10] l=[]↔l=[]:=by
 constructor
 ·intro e
  cases l with
  | nil=>rfl
  | cons x r=>
   have hx:=(h x (by simp)).ne
   cases r with
   | nil=>exact absurd e hx
   | cons y r=>simp[Zal] at e
 ·rintro rfl;rfl
end M
namespace M
def Zi7(p:Pk):Prop:=Zcp (Zaz p)=.inr p
theorem Zi7.name{p:Pk}(h:Zi7 p):p.name≠[]:=(Zp6 h).2
theorem Zi7.good{p:Pk}(h:Zi7 p):Good p:=(Zp6 h).1
theorem Zi7.of{s:List UInt8}{p:Pk}(h:Zcp s=.inr p):Zi7 p:=(Zjo h).2.1
structure Tog (l:List Pk):Prop where
 back:∀ p∈l,Zi7 p
 apart:Apart l
 lack:Za2 l=[]
 bar:Zbg l=[]
 clash:Za4 l=[]
theorem Zps:Apart []:=List.nodup_nil
theorem Yb7:Tog []:=⟨fun p hp=>(by cases hp),Zps,rfl,rfl,rfl⟩
theorem Z7x{l:List Pk}(hb:∀ p∈l,Zi7 p):∀ p∈l,∀ f∈p.files,f.path≠[]:=fun p hp f hf=>(hb p hp).good.paths f hf
theorem Zny{l:List Pk}(ha:Apart l)(hb:∀ p∈l,Zi7 p):Zbg l=[]↔∀ p∈l,¬ Z9y l p:=by
 rw[(Zn2 ha (fun p hp=>(hb p hp).name)).nil_iff]
 constructor
 ·intro h p hp hB
  exact h p.name ⟨p,hp,hB,rfl⟩
 ·rintro h x ⟨p,hp,hB,_⟩
  exact h p hp hB
theorem Ziz{l:List Pk}(ha:Apart l)(hb:∀ p∈l,Zi7 p):Za4 l=[]↔∀ x,¬ Zts l x:=(Zmp ha (Z7x hb)).nil_iff
theorem Zwq{l k:List Pk}(ha:Apart l)(hk:Apart k)(hb:∀ p∈l,Zi7 p)(hs:∀ p∈k,p∈l)(h:Zbg l=[]):Zbg k=[]:=by
 rw[Zny hk (fun p hp=>hb p (hs p hp))]
 rw[Zny ha hb] at h
 rintro p hp ⟨q,hq,h1,h2⟩
 exact h p (hs p hp) ⟨q,hs q hq,h1,h2⟩
theorem Zvo{l k:List Pk}(ha:Apart l)(hk:Apart k)(hb:∀ p∈l,Zi7 p)(hs:∀ p∈k,p∈l)(h:Za4 l=[]):Za4 k=[]:=by
 rw[Ziz hk (fun p hp=>hb p (hs p hp))]
 rw[Ziz ha hb] at h
 rintro x ⟨p,hp,q,hq,f,hf,g,hg,h1⟩
 exact h x ⟨p,hs p hp,q,hs q hq,f,hf,g,hg,h1⟩
theorem Z1u{qQ qZ all all':List Pk}{qG:List (List UInt8)}(h:Zcc qQ qZ all=.inr (all',qG)):
 all'=all/\Za2 all=[]/\Zbg all=[]/\Za4 all=[]/\Zfe (Zb2 qQ qZ.length qZ []).2=[]/\qG=(Zb2 qQ qZ.length qZ []).1:=by
 unfold Zcc at h
 split at h
 ·cases h
 ·split at h
  ·cases h
  ·split at h
   ·cases h
   ·split at h
    ·cases h
    ·rename_i h1 h2 h3 h4
     cases h
     exact⟨rfl,Classical.not_not.1 h1,Classical.not_not.1 h2,Classical.not_not.1 h3,Classical.not_not.1 h4,rfl⟩
theorem Zv3(qQ:List Pk):∀ (n:Nat) (l:List Pk) (out:List (List UInt8)),(Zb2 qQ n l out).1.length+(Zb2 qQ n l out).2.length=out.length+l.length
 | 0,l,out=>rfl
 | n+1,l,out=>by
  unfold Zb2
  split
  ·rfl
  ·split
   ·rfl
   ·rename_i k hk
    have hlt:=(List.findIdx?_eq_some_iff_getElem.1 hk).1
    rw[Zv3 qQ n]
    simp only[List.length_append,List.length_take,List.length_drop,List.length_cons,List.length_nil]
    omega
theorem Zwe(qQ:List Pk):∀ (n:Nat) (l:List Pk) (out:List (List UInt8)),∀ p∈(Zb2 qQ n l out).2,p∈l
 | 0,l,out,p,hp=>hp
 | n+1,l,out,p,hp=>by
  unfold Zb2 at hp
  split at hp
  ·exact hp
  ·split at hp
   ·exact hp
   ·have:=Zwe qQ n _ _ p hp
    rcases List.mem_append.1 this with h|h
    ·exact List.mem_of_mem_take h
    ·exact List.mem_of_mem_drop h
theorem Zwv{l:List Pk}(hn:∀ p∈l,p.name≠[]):Zfe l=[]↔l=[]:=by
 rw[(Zod hn).nil_iff]
 constructor
 ·intro h
  exact List.eq_nil_iff_forall_not_mem.2 (fun p hp=>h p.name ⟨p,hp,rfl⟩)
 ·rintro rfl x ⟨p,hp,_⟩
  cases hp
theorem Zq3{qQ all:List Pk}{qX qG:List (List UInt8)}(h:Zar qQ qX=.inr (all,qG))(ht:∀ p∈qQ,Zi7 p)(ha:Apart qQ):
 ∃ qZ,Zav qX 0 []=.inr qZ/\all=qQ++qZ/\Tog all/\qZ.length=qX.length/\qG.length=qX.length:=by
 unfold Zar at h
 cases hr:Zav qX 0 [] with
 | inl f=>rw[hr] at h;cases h
 | inr qZ=>
  rw[hr] at h
  simp only at h
  cases hq:Zbf qZ 0 qQ with
  | inl f=>rw[hq] at h;cases h
  | inr al=>
   rw[hq] at h
   simp only at h
   have e:=Zi9 _ _ _ _ hq
   have hap:=Zii _ _ _ _ hq ha
   obtain⟨rfl,h1,h2,h3,h4,h5⟩:=Z1u h
   have hlen:qZ.length=qX.length:=by have:=Zge _ _ _ _ hr;simpa using this
   have hfb:∀ p∈qZ,Zi7 p:=fun p hp=>by
    rcases Zgm _ _ _ _ hr p hp with k|⟨t,_,k⟩
    ·cases k
    ·exact Zi7.of k
   refine⟨qZ,rfl,e,⟨?_,hap,h1,h2,h3⟩,hlen,?_⟩
   ·intro p hp
    rw[e] at hp
    exact(List.mem_append.1 hp).elim (ht p) (hfb p)
   ·have hl:=(Zwv (fun p hp=>(hfb p (Zwe qQ _ _ _ p hp)).name)).1 h4
    have:=Zv3 qQ qZ.length qZ []
    rw[hl] at this
    rw[h5,<-hlen]
    simpa using this
theorem Zi3{qQ all:List Pk}{qX:List (List UInt8)}{room:Int}(h:Zap qQ qX room=.inr all)(ht:∀ p∈qQ,Zi7 p)(ha:Apart qQ):
 ∃ qZ qG,Zar qQ qX=.inr (all,qG)/\Zav qX 0 []=.inr qZ/\all=qQ++qZ/\Tog all/\qZ.length=qX.length/\(Zbn all:Int)<=room:=by
 unfold Zap at h
 cases hp:Zar qQ qX with
 | inl f=>rw[hp] at h;cases h
 | inr q=>
  obtain⟨al,qG⟩:=q
  rw[hp] at h
  simp only at h
  split at h
  ·cases h
  ·cases h
   obtain⟨qZ,h1,h2,h3,h4,_⟩:=Zq3 hp ht ha
   exact⟨qZ,qG,rfl,h1,h2,h3,h4,by omega⟩
theorem Zpe:∀ (ns:List (List UInt8)) (i:Nat) (l all:List Pk),Zb4 ns i l=.inr all->all.Sublist l
 | [],i,l,all,h=>by simp only[Zb4,Sum.inr.injEq] at h;subst h;exact List.Sublist.refl _
 | n :: ns,i,l,all,h=>by
  simp only[Zb4] at h
  split at h
  ·cases h
  ·rename_i k hk
   refine(Zpe ns _ _ _ h).trans ?_
   have e:l=l.take k++l.drop k:=(List.take_append_drop k l).symm
   conv=>rhs;rw[e]
   exact List.Sublist.append (List.Sublist.refl _) (by rw[<-List.drop_drop];exact List.drop_sublist _ _)
theorem Z9e{l k:List Pk}(h:k.Sublist l):Zbn k<=Zbn l:=by
 unfold Zbn
 induction h with
 | slnil=>exact Nat.le_refl _
 | cons a _ ih=>simp only[List.map_cons,List.sum_cons];omega
 | cons_cons a _ ih=>simp only[List.map_cons,List.sum_cons];omega
theorem Zl8{qQ all:List Pk}{qG:List (List UInt8)}(h:Za6 qQ qG=.inr all)(ht:Tog qQ):Tog all/\all.Sublist qQ/\Zbn all<=Zbn qQ:=by
 unfold Za6 at h
 cases hd:Zb4 qG 0 qQ with
 | inl f=>rw[hd] at h;cases h
 | inr al=>
  rw[hd] at h
  simp only at h
  split at h
  ·cases h
  ·rename_i hl
   cases h
   have hs:=Zpe _ _ _ _ hd
   have hap:Apart all:=List.Nodup.sublist (hs.map Pk.name) ht.apart
   exact⟨⟨fun p hp=>ht.back p (hs.subset hp),hap,Classical.not_not.1 hl,Zwq ht.apart hap ht.back (fun p hp=>hs.subset hp) ht.bar,Zvo ht.apart hap ht.back (fun p hp=>hs.subset hp) ht.clash⟩,hs,Z9e hs⟩
theorem Z4v{l:List Pk}(h:Tog l){p:Pk}(hp:p∈l){x:List UInt8}(hx:(p.files.any fun f=>f.path == x)=true):Zfb l x=p.name:=by
 unfold Zfb
 cases hf:l.find? (fun p=>p.files.any fun f=>f.path == x) with
 | none=>exact absurd hx (by simpa using List.find?_eq_none.1 hf p hp)
 | some q=>
  have hq:=List.mem_of_find?_eq_some hf
  have hqx:=List.find?_some hf
  simp only
  by_cases e:q.name=p.name
  ·exact e
  ·exfalso
   obtain⟨f,hf1,hf2⟩:=List.any_eq_true.1 hx
   obtain⟨g,hg1,hg2⟩:=List.any_eq_true.1 hqx
   have hc:=(Ziz h.apart h.back).1 h.clash x
   refine hc ⟨p,hp,q,hq,f,hf1,g,hg1,.inr ⟨?_,fun e2=>e e2.symm⟩,?_⟩
   ·rw[eq_of_beq hf2,eq_of_beq hg2]
   ·exact(eq_of_beq hf2).symm
def rdO(t:List UInt8):Option Pk:=match Zcp t with
 | .inl _=>none
 | .inr p=>some p
theorem Zog:∀ (ts:List (List UInt8)) (i:Nat) (acc l:List Pk),Zav ts i acc=.inr l↔(∀ t∈ts,(rdO t).isSome=true)/\l=acc++ts.filterMap rdO
 | [],i,acc,l=>by
  simp only[Zav,Sum.inr.injEq]
  constructor
  ·rintro rfl;simp
  ·rintro ⟨_,rfl⟩;simp
 | t :: ts,i,acc,l=>by
  simp only[Zav]
  cases hr:Zcp t with
  | inl n=>
   simp only
   constructor
   ·intro h;cases h
   ·intro h
    have:=h.1 t (by simp)
    simp[rdO,hr] at this
  | inr p=>
   simp only
   rw[Zog ts (i+1) (acc++[p]) l]
   have e:rdO t=some p:=by simp[rdO,hr]
   rw[List.filterMap_cons,e]
   simp only[List.append_assoc,List.singleton_append,List.mem_cons,forall_eq_or_imp,e,Option.isSome_some,true_and]
theorem Zr0:∀ (ps:List Pk) (i:Nat) (acc all:List Pk),Apart acc->(Zbf ps i acc=.inr all↔Apart (acc++ps)/\all=acc++ps)
 | [],i,acc,all,h=>by
  simp only[Zbf,Sum.inr.injEq,List.append_nil]
  constructor
  ·rintro rfl;exact⟨h,rfl⟩
  ·rintro ⟨_,rfl⟩;rfl
 | p :: ps,i,acc,all,h=>by
  simp only[Zbf]
  by_cases hp:0<=Zex acc p.name
  ·rw[if_pos hp]
   constructor
   ·intro h;cases h
   ·rintro ⟨h1,_⟩
    exfalso
    have hex:¬ ∀ q∈acc,q.name≠p.name:=fun e=>absurd hp (Zgx.2 e)
    refine hex (fun q hq e=>?_)
    unfold Apart at h1
    rw[List.map_append,List.nodup_append] at h1
    exact h1.2.2 q.name (List.mem_map.2 ⟨q,hq,rfl⟩) p.name (by simp) e
  ·rw[if_neg hp]
   have hap:Apart (acc++[p]):=by
    have:=Zgx.1 hp
    unfold Apart at h ⊢
    rw[List.map_append,List.nodup_append]
    refine⟨h,by simp,fun a ha b hb e=>?_⟩
    obtain⟨q,hq,rfl⟩:=List.mem_map.1 ha
    simp only[List.map_cons,List.map_nil,List.mem_singleton] at hb
    exact this q hq (e.trans hb)
   rw[Zr0 ps (i+1) (acc++[p]) all hap]
   simp only[List.append_assoc,List.singleton_append]
end M
namespace M
def packed(l:List Pk):List UInt8:=Zal [10,10] (Za5 l)
theorem Zow{l:List Pk}(ha:Apart l){t:List UInt8}(h:t∈Za5 l):∃ p∈l,t=Zaz p:=by
 unfold Za5 at h
 obtain⟨n,hn,rfl⟩:=List.mem_map.1 h
 obtain⟨p,hp,rfl⟩:=List.mem_map.1 ((Zbh _).mem_iff.1 hn)
 exact⟨p,hp,Zhb ha hp⟩
theorem Zgu{l:List Pk}(ha:Apart l):(Za5 l).Perm (l.map Zaz):=by
 unfold Za5
 refine((Zbh _).map _).trans ?_
 rw[List.map_map]
 have:l.map (textOf l ∘ Pk.name)=l.map Zaz:=List.map_congr_left (fun p hp=>Zhb ha hp)
 rw[this]
theorem Zc3(l:List Pk):(Za5 l).length=l.length:=by
 unfold Za5
 rw[List.length_map,(Zbh _).length_eq,List.length_map]
theorem Zp1{l:List Pk}(hb:∀ p∈l,Zi7 p)(ha:Apart l):∀ s∈Za5 l,Clean s:=fun s hs=>by
 obtain⟨p,hp,rfl⟩:=Zow ha hs
 exact Zyl (hb p hp)
theorem Z2p{l:List Pk}(hb:∀ p∈l,Zi7 p)(ha:Apart l)(hne:l≠[]):Zcn (packed l) [10,10]=Za5 l/\packed l≠[]:=by
 have h0:Za5 l≠[]:=fun e=>hne (List.length_eq_zero_iff.1 (by rw[<-Zc3 l,e];rfl))
 exact⟨Zus _ h0 (Zp1 hb ha),fun e=>h0 ((Z3l (Zp1 hb ha)).1 e)⟩
theorem Zqq{l:List Pk}(ha:Apart l):((Za5 l).map List.length).sum=Zbn l:=by
 rw[((Zgu ha).map _).sum_nat,List.map_map]
 rfl
theorem Z1e{l:List Pk}(hb:∀ p∈l,Zi7 p)(ha:Apart l):11*(packed l).length<=13*Zbn l:=by
 rw[<-Zqq ha]
 exact Zv1 _ (fun s hs=>by obtain⟨p,hp,rfl⟩:=Zow ha hs;exact Zrz (hb p hp))
theorem Zo7{l:List Pk}{n:Nat}(hb:∀ p∈l,Zi7 p)(ha:Apart l)(h1:16<=n)(h2:n<=256)(hs:(Zbn l:Int)<=24*((n:Int)-8)):Zfv (packed l).length<=(n-1) / 2/\(packed l).length<65536:=by
 have h:=Z1e hb ha
 unfold Zfv
 constructor
 ·omega
 ·omega
theorem Zlm{l:List Pk}(hb:∀ p∈l,Zi7 p):11*l.length<=Zbn l:=by
 unfold Zbn
 induction l with
 | nil=>simp
 | cons p l ih=>
  have h1:=Zrz (hb p (by simp))
  have h2:=ih (fun q hq=>hb q (by simp[hq]))
  simp only[List.map_cons,List.sum_cons,List.length_cons]
  omega
theorem Zyt{l:List Pk}(hb:∀ p∈l,Zi7 p)(ha:Apart l):∃ m,Zav (Za5 l) 0 []=.inr m/\m.Perm l/\Zbf m 0 []=.inr m:=by
 have hrd:∀ p∈l,rdO (Zaz p)=some p:=fun p hp=>by
  have:=hb p hp
  unfold Zi7 at this
  simp[rdO,this]
 have e:(l.map Zaz).filterMap rdO=l:=by
  clear ha
  induction l with
  | nil=>rfl
  | cons p l ih=>
   rw[List.map_cons,List.filterMap_cons,hrd p (by simp)]
   simp only
   rw[ih (fun q hq=>hb q (by simp[hq])) (fun q hq=>hrd q (by simp[hq]))]
 have hp:((Za5 l).filterMap rdO).Perm l:=by
  have:=(Zgu ha).filterMap rdO
  rwa [e] at this
 refine⟨(Za5 l).filterMap rdO,(Zog _ _ _ _).2 ⟨fun t ht=>?_,by simp⟩,hp,(Zr0 _ _ _ _ Zps).2 ⟨by simpa using ha.perm hp.symm,by simp⟩⟩
 obtain⟨p,hp,rfl⟩:=Zow ha ht
 rw[hrd p hp]
 rfl
end M
end Go.Proofs.YtgnfknjopafngaaGreatDoor
namespace Go.Proofs.YtgnfknjopafngaaGreatDoor
open Go.RowKit Go.Maps
def Zeu(t:List UInt8):List (List UInt8):=match t with
 | []=>[]
 | x :: l=>M.Zcn (x :: l) [10,10]
theorem Ztm{l:List M.Pk}(hb:∀ p∈l,M.Zi7 p)(ha:M.Apart l):Zeu (M.packed l)=M.Za5 l:=by
 cases l with
 | nil=>rfl
 | cons p l=>
  obtain⟨h1,h2⟩:=M.Z2p hb ha (by simp)
  cases hp:M.packed (p :: l) with
  | nil=>exact absurd hp h2
  | cons x k=>
   rw[hp] at h1
   exact h1
theorem Zty{w:World}{B:Nat}{v:Value}{l:List (List UInt8)}(h:w.ownsRow B 9 1 v l.length (l.map Zbe)):Za8 w v (l.map fun t=>⟨t.toArray⟩):=by
 have e:(l.map fun t=>(⟨t.toArray⟩:ByteArray)).map Value.string=l.map Zbe:=by rw[List.map_map];rfl
 show Zas w 0 w.heap.size v _ _
 rw[e,List.length_map]
 obtain h|⟨g,cap,h1,h2,h3,h4,h5⟩:=Zas.own h
 ·exact .inl h
 ·exact .inr ⟨g,cap,h1,h2,Nat.zero_le _,h4,h5⟩
theorem Z60(t:List UInt8)(w:World)(hM:Zby w)(hl:t.length<=1000000)(hn:(Zeu t).length<=10000):
 Calls Tryz.prog 151 #[.string ⟨t.toArray⟩] w fun e w'=>(∃ a n c,e=.returned (.slice a n c)/\w'.ownsRow w.heap.size 9 1 (.slice a n c) (Zeu t).length ((Zeu t).map Zbe))/\Below w.heap.size w w':=by
 cases t with
 | nil=>
  refine(Z2f w).mono ?_
  rintro e w' ⟨rfl,rfl⟩
  exact⟨⟨_,_,_,rfl,World.ownsRow_nil _ _ _ _⟩,Below.refl _ _⟩
 | cons x l=>
  have c:=Zir ⟨(x :: l).toArray⟩ ⟨#[10,10]⟩ ((Zeu (x :: l)).map fun t=>⟨t.toArray⟩) w hM (by simpa [ByteArray.size] using hl) (by decide) (by rw[List.map_map];show M.Zcn (x :: l) [10,10] = _;exact(List.map_id _).symm)
  have hlen:(((Zeu (x :: l)).map fun t=>(⟨t.toArray⟩:ByteArray)).length)=(Zeu (x :: l)).length:=List.length_map ..
  rw[hlen,List.map_map] at c
  have hw2:(w.alloc (.cells (((Zeu (x :: l)).map Zbe)).toArray 9)).ownsRow w.heap.size 9 1 (.slice (some ⟨w.heap.size,0,none⟩) (Zeu (x :: l)).length (Zeu (x :: l)).length) (Zeu (x :: l)).length ((Zeu (x :: l)).map Zbe):=by
   refine⟨by simp,.inr ⟨w.heap.size,(Zeu (x :: l)).length,_,rfl,Nat.le_refl _,heap_alloc_new w _,Nat.le_refl _,?_,by simp,by rw[Nat.mul_one,List.take_of_length_le (by simp)]⟩⟩
   unfold maxLen
   omega
  have HO:=hid hw2
  have hB:Below w.heap.size w (w.alloc (.cells (((Zeu (x :: l)).map Zbe)).toArray 9)):=(Below.refl _ w).alloc ler _
  have e0:List.map (Value.string ∘ fun t=>(⟨t.toArray⟩:ByteArray)) (Zeu (x :: l))=(Zeu (x :: l)).map Zbe:=rfl
  rw[e0] at c
  generalize w.alloc (.cells (((Zeu (x :: l)).map Zbe)).toArray 9)=A at c hw2 hB HO
  clear hw2 e0 hlen
  go_enter Tryz.func151,Tryz.ntmps151
  go_wp2_with (go_at_call 85;refine c.mono ?_;rintro e w2 ⟨rfl,rfl⟩)
  go_ret
  exact⟨⟨_,_,_,rfl,HO.out⟩,hB⟩
theorem Z6s(d n qY:Nat)(hv sv lv:Value)(D:M.Dk)(t:List UInt8)(w:World)(hM:Zby w)(h:Zai w d hv sv lv D)(hl:M.Znh D.seen n qY t)(h1:16<=n)(h2:n<=256)(hn:(Zeu t).length<=10000):
 Calls Tryz.prog 114 #[.iface 84 (.pointer (some ⟨d,0,none⟩))] w fun e w'=>(∃ a m c,e=.returned (.tuple #[.pointer (some ⟨w.heap.size,0,none⟩),.slice a m c])/\w'.ownsRow w.heap.size 9 1 (.slice a m c) (Zeu t).length ((Zeu t).map Zbe))/\Zao w' w.heap.size d qY/\Below w.heap.size w w':=by
 obtain⟨x0,hx0,hx1⟩:=hl.head
 have HD:=hid h
 have HM:=hid hM
 have HL:=hid hl
 have hsm:=hl.small
 have cH:=fun wx=>Zve x0 qY t.length wx hx1
 generalize hA:w.alloc (.cells #[.iface 84 (.pointer (some ⟨d,0,none⟩)),.int .i64 0] 196)=A
 have hB:Below w.heap.size w A:=by rw[<-hA];exact(Below.refl _ w).alloc ler _
 have hk:Zao A w.heap.size d 0:=by rw[<-hA];exact heap_alloc_new w _
 have hlt:0<D.seen.length:=by rw[hl.len];omega
 have cK:=Zq7 w.heap.size d 0 0 hv sv lv D.left D.dead D.held D.seen A hk (h.below hB).diskAt hlt
 have e0:D.seen[0]=x0:=by
  rw[List.getElem?_eq_getElem hlt] at hx0
  exact Option.some.inj hx0
 rw[e0] at cK
 have HK:=hid hk
 have hAs:w.heap.size<A.heap.size:=(ges.1 hk).1
 clear h hk hl hx0 hx1 e0 hM
 go_enter Tryz.func114,Tryz.ntmps114
 go_wp2_with (first
  | (go_at_call 150;refine cK.mono ?_;rintro e w2 ⟨rfl,hB2⟩)
  | (go_at_call 149;refine(cH w2).mono ?_;rintro e w3 ⟨rfl,hB3⟩;have k3:w3.heap[w.heap.size]? = some (.cells #[.iface 84 (.pointer (some ⟨d,0,none⟩)),.int .i64 0] 196 (0,0)):=((bt hB2 hB3).block _ hAs).trans HK.out;have x1:w3.cell? ⟨w.heap.size,1,none⟩=some (.int .i64 0):=(cell_of_row w3 _ 1 _ _ (0,0) k3).trans (by rfl);have x2:w3.frozen? ⟨w.heap.size,1,none⟩=false:=frozen_of_row w3 _ _ _ _ k3
     have hB13:Below w.heap.size w w3:=bt (bt hB hB2) hB3
     have hB14:Below w.heap.size w (w3.setCell ⟨w.heap.size,1,none⟩ (.int .i64 qY)):=hB13.setCell ler _
     have k4:Zao (w3.setCell ⟨w.heap.size,1,none⟩ (.int .i64 qY)) w.heap.size d qY:=heap_setCell_same w3 w.heap.size 1 _ _ (.int .i64 qY) k3
     have HK4:Hid (Zao (w3.setCell ⟨w.heap.size,1,none⟩ (.int .i64 qY)) w.heap.size d qY/\Below w.heap.size w (w3.setCell ⟨w.heap.size,1,none⟩ (.int .i64 qY))):=⟨k4,hB14⟩
     clear k4 hB14 k3)
  | (go_at_call 152;refine(Z8m w.heap.size d n qY hv sv lv D t _ HK4.out.1 (HD.out.below HK4.out.2) HL.out h1 h2).mono ?_;rintro e w4 ⟨rfl,hB4⟩)
  | (go_at_call 151;refine(Z60 t w4 (HM.out.below (bt HK4.out.2 hB4)) (by omega) hn).mono ?_;rintro e w5 ⟨⟨a5,n5,c5,rfl,h5⟩,hB5⟩;have H5:Hid _:=h5;clear h5))
 go_ret2
 have hB24:=bt HK4.out.2 hB4
 exact⟨⟨_,_,_,rfl,Zf3 H5.out hB24.size⟩,Zao.below (Zao.below HK4.out.1 hB4) hB5,bt hB24 hB5⟩
theorem Z2h{l:List Nat}{a:Nat}(h:a∈l):a<=l.sum:=by
 induction l with
 | nil=>cases h
 | cons b l ih=>
  rcases List.mem_cons.1 h with rfl|h
  ·simp
  ·have:=ih h
   simp
   omega
theorem Zn4{l:List M.Pk}(ha:M.Apart l){t:List UInt8}(h:t∈M.Za5 l):t.length<=M.Zbn l:=by
 rw[<-M.Zqq ha]
 exact Z2h (List.mem_map.2 ⟨t,h,rfl⟩)
theorem Z18(B:Nat)(v:Value)(l:List M.Pk)(w:World)(hR:Ready w)(hb:∀ p∈l,M.Zi7 p)(ha:M.Apart l)(hv:w.ownsRow B 9 1 v (M.Za5 l).length ((M.Za5 l).map Zbe))(hs:M.Zbn l<=8192)(hn:l.length<=1000):
 Calls Tryz.prog 115 #[v] w fun e w'=>∃ b,e=.returned (.map (some b))/\Zaw w' b l/\Below w.heap.size w w':=by
 have hmm:=@run_makeMap Tryz.prog
 obtain⟨av,cv,ev⟩:=Zac hv
 subst ev
 generalize hA:w.alloc (.map #[] 0)=A
 have hB:Below w.heap.size w A:=by rw[<-hA];exact(Below.refl _ w).alloc ler _
 have hS:Zaw A w.heap.size []:=⟨fun _=>.int .i64 0,by rw[<-hA];exact Zaj.made w,fun p hp=>by cases hp⟩
 have hR2:=hR.below hB
 have cA:=Zr1 w.heap.size [] _ _ A hR2.2 hR2.1 hS (Zty (own_below hv hB)).txts (by rw[List.length_map,M.Zc3];omega) (fun t ht=>by
  obtain⟨q,hq,rfl⟩:=List.mem_map.1 ht
  have:=Zn4 ha hq
  show q.toArray.size<=8192
  simp
  omega)
 obtain⟨m,m1,m2,m3⟩:=M.Zyt hb ha
 have e0:Zgq [] (((M.Za5 l).map fun t=>(⟨t.toArray⟩:ByteArray)).map fun t=>t.data.toList)=.inr m:=by
  rw[List.map_map,show ((fun t:ByteArray=>t.data.toList) ∘ fun t=>(⟨t.toArray⟩:ByteArray))=id from rfl,List.map_id]
  unfold Zgq
  rw[m1]
  simp only
  rw[m3]
 rw[e0] at cA
 clear hS hR hR2 e0 m1 m3 hv
 go_enter Tryz.func115,Tryz.ntmps115
 go_wp2_with (go_at_call 153;refine cA.mono ?_;rintro e w2 ⟨hB2,b,rfl,hS2⟩)
 go_ret
 exact⟨b,rfl,hS2.perm m2,bt hB hB2⟩
theorem Z53(d n qY:Nat)(hv sv lv:Value)(D:M.Dk)(l:List M.Pk)(w:World)(hR:Ready w)(h:Zai w d hv sv lv D)(hl:M.Znh D.seen n qY (M.packed l))(h1:16<=n)(h2:n<=256)(hb:∀ p∈l,M.Zi7 p)(ha:M.Apart l)(hs:M.Zbn l<=8192)(hn:l.length<=1000):
 Calls Tryz.prog 72 #[.iface 84 (.pointer (some ⟨d,0,none⟩))] w fun e w'=>∃ s k b,e=.returned (.tuple #[.pointer (some ⟨s,0,none⟩),.nilIface])/\Zbv w' s k b/\Zao w' k d qY/\Zaw w' b l/\w.heap.size<=s/\w.heap.size<=k/\Below w.heap.size w w':=by
 have hsp:=Ztm hb ha
 have cO:=Z6s d n qY hv sv lv D _ w hR.2 h hl h1 h2 (by rw[hsp,M.Zc3];omega)
 rw[hsp] at cO
 have HR:=hid hR
 clear h hR hl hsp
 go_enter Tryz.func72,Tryz.ntmps72
 go_wp2_with (go_at_call 114;refine cO.mono ?_;rintro e w1 ⟨⟨a1,m1,c1,rfl,hv1⟩,hk,hB1⟩;have HV:Hid _:=hv1;have HK:Hid (Zao w1 w.heap.size d qY):=hk;clear hk hv1)
 have cF:=Z18 _ _ l w1 (HR.out.below hB1) hb ha HV.out hs hn
 refine cF.mono ?_
 rintro e w2 ⟨b,rfl,hS,hB2⟩
 have HS:=hid hS
 clear hS cF cO
 go_wp2
 go_ret2
 have hk2:w.heap.size<w1.heap.size:=(ges.1 HK.out).1
 have hB3:Below w2.heap.size w2 (w2.alloc (.cells #[.pointer (some ⟨w.heap.size,0,none⟩),.map (some b)] 140)):=(Below.refl _ w2).alloc ler _
 exact⟨w2.heap.size,w.heap.size,b,rfl,heap_alloc_new w2 _,(hB3.block _ (Nat.lt_of_lt_of_le hk2 hB2.size)).trans ((hB2.block _ hk2).trans HK.out),HS.out.below hB3,Nat.le_trans hB1.size hB2.size,Nat.le_refl _,bt (bt hB1 hB2) hB3⟩
end Go.Proofs.YtgnfknjopafngaaGreatDoor
