import Derived.Test.YtgnfknjopafngabGreatDoorKnv
set_option maxRecDepth 100000
set_option maxHeartbeats 4000000
namespace Go.Proofs.YtgnfknjopafngabGreatDoor
namespace M
def Clean:List UInt8->Prop
 | []=>False
 | [a]=>a≠10
 | a :: b :: r=>¬ (a=10/\b=10)/\Clean (b :: r)
theorem Clean.ne{t:List UInt8}(h:Clean t):t≠[]:=fun e=>by rw[e] at h;exact h
theorem cut2_hit:∀ (t cur rest:List UInt8) (n m:Nat),Clean t->(t++10 :: 10 :: rest).length<=n->rest.length<=m->cutA [10,10] n cur (t++10 :: 10 :: rest)=(cur++t) :: cutA [10,10] m [] rest
 | [],cur,rest,n,m,h,_,_=>h.elim
 | [a],cur,rest,n,m,h,hn,hm=>by
  have h1:a≠10:=h
  simp only[List.cons_append,List.nil_append,List.length_cons] at hn
  rw[List.singleton_append,cutA_miss (by simp) n (n-1) cur (a :: 10 :: 10 :: rest) (by simp;omega) (by simp;omega) (by simp) (by simp[h1])]
  rw[List.take_succ_cons,List.take_zero,List.drop_succ_cons,List.drop_zero,cutA_hit (by simp) (n-1) m _ _ (by simp;omega) (by simpa using hm) (by simp) (by simp)]
  simp
 | a :: b :: r,cur,rest,n,m,h,hn,hm=>by
  obtain⟨h1,h2⟩:=h
  simp only[List.cons_append,List.length_cons] at hn
  have e:(a :: b :: r)++10 :: 10 :: rest=a :: ((b :: r)++10 :: 10 :: rest):=rfl
  rw[e,cutA_miss (by simp) n (n-1) cur _ (by simp only[List.length_cons,List.length_append] at hn ⊢;omega) (by simp only[List.drop_succ_cons,List.drop_zero,List.length_cons,List.length_append] at hn ⊢;omega) (by simp) (by simpa using h1)]
  rw[List.take_succ_cons,List.take_zero,List.drop_succ_cons,List.drop_zero,cut2_hit (b :: r) (cur++[a]) rest (n-1) m h2 (by simp only[List.length_cons,List.length_append] at hn ⊢;omega) hm]
  simp
theorem cut2_end:∀ (t cur:List UInt8) (n:Nat),Clean t->t.length<=n->cutA [10,10] n cur t=[cur++t]
 | [],cur,n,h,_=>h.elim
 | [a],cur,n,_,_=>cutA_stop n cur [a] (by simp)
 | a :: b :: r,cur,n,h,hn=>by
  obtain⟨h1,h2⟩:=h
  simp only[List.length_cons] at hn
  rw[cutA_miss (by simp) n (n-1) cur _ (by simp;omega) (by simp;omega) (by simp) (by simpa using h1)]
  rw[List.take_succ_cons,List.take_zero,List.drop_succ_cons,List.drop_zero,cut2_end (b :: r) (cur++[a]) (n-1) h2 (by simp;omega)]
  simp
theorem cut2_join:∀ (l:List (List UInt8)),l≠[]->(∀ s∈l,Clean s)->cutS (joinS [10,10] l) [10,10]=l
 | [],h,_=>absurd rfl h
 | [x],_,h=>by
  unfold cutS
  rw[show joinS [10,10] [x]=x from rfl,cut2_end x [] _ (h x (by simp)) ler]
  rfl
 | x :: y :: r,_,h=>by
  have e:joinS [10,10] (x :: y :: r)=x++10 :: 10 :: joinS [10,10] (y :: r):=by simp[joinS]
  have ih:=cut2_join (y :: r) (by simp) (fun s hs=>h s (by simp[hs]))
  unfold cutS at ih ⊢
  rw[e,cut2_hit x [] _ _ (joinS [10,10] (y :: r)).length (h x (by simp)) ler ler,ih]
  rfl
theorem clean_line:∀ (t:List UInt8),t≠[]->(10:UInt8) ∉ t->Clean t
 | [],h,_=>absurd rfl h
 | [a],_,h=>fun e=>h (by simp[e])
 | a :: b :: r,_,h=>⟨fun e=>h (by simp[e.1]),clean_line (b :: r) (by simp) (fun e=>h (List.mem_cons_of_mem _ e))⟩
theorem clean_app:∀ (t r:List UInt8) (b:UInt8),t≠[]->(10:UInt8) ∉ t->b≠10->Clean (b :: r)->Clean (t++10 :: b :: r)
 | [],_,_,h,_,_,_=>absurd rfl h
 | [a],r,b,_,h,hb,hr=>⟨fun e=>h (by simp[e.1]),fun e=>hb e.2,hr⟩
 | a :: c :: t,r,b,_,h,hb,hr=>⟨fun e=>h (by simp[e.1]),clean_app (c :: t) r b (by simp) (fun e=>h (List.mem_cons_of_mem _ e)) hb hr⟩
theorem clean_join:∀ (l:List (List UInt8)),l≠[]->(∀ s∈l,s≠[]/\(10:UInt8) ∉ s)->Clean (joinS [10] l)/\∃ b r,joinS [10] l=b :: r/\b≠10
 | [],h,_=>absurd rfl h
 | [x],_,h=>by
  obtain⟨h1,h2⟩:=h x (by simp)
  refine⟨clean_line x h1 h2,?_⟩
  cases x with
  | nil=>exact absurd rfl h1
  | cons b r=>exact⟨b,r,rfl,fun e=>h2 (by simp[e])⟩
 | x :: y :: r,_,h=>by
  obtain⟨h1,h2⟩:=h x (by simp)
  obtain⟨k1,b,s,k2,k3⟩:=clean_join (y :: r) (by simp) (fun s hs=>h s (by simp[hs]))
  have e:joinS [10] (x :: y :: r)=x++10 :: joinS [10] (y :: r):=by simp[joinS]
  rw[e]
  rw[k2] at k1 ⊢
  refine⟨clean_app x s b h1 h2 k3 k1,?_⟩
  cases x with
  | nil=>exact absurd rfl h1
  | cons c r=>exact⟨c,_,rfl,fun e=>h2 (by simp[e])⟩
theorem lineS_nil(p:Pk)(k:Nat):lineS p k []=none:=by
 unfold lineS
 split
 ·rfl
 ·rw[if_neg (fun h=>absurd h.1 (by decide)),if_neg (fun h=>absurd h.1 (by decide)),if_neg (fun h=>absurd h.1 (by decide))]
theorem lines_ne:∀ (l:List (List UInt8)) (k:Nat) (p q:Pk),linesS l k p=.inr q->∀ x∈l,x≠[]
 | [],_,_,_,_,x,hx=>by cases hx
 | a :: l,k,p,q,h,x,hx=>by
  unfold linesS at h
  cases hp:lineS p k a with
  | none=>rw[hp] at h;cases h
  | some p'=>
   rw[hp] at h
   rcases List.mem_cons.1 hx with rfl|hx
   ·intro e
    rw[e,lineS_nil] at hp
    cases hp
   ·exact lines_ne l (k+1) p' q h x hx
theorem print_clean{s:List UInt8}{p:Pk}(h:readS s=.inr p):Clean (printS p):=by
 obtain⟨_,h,_⟩:=read_print h
 have hb:=h
 generalize hs:printS p=t at h ⊢
 unfold readS at h
 split at h
 ·cases h
 ·split at h
  ·cases h
  ·rename_i q e
   cases h
   have hne:cutS (trimS t) [10]≠[]:=fun e=>by have:=(cutS_len (trimS t) [10]).1;rw[e] at this;simp at this
   obtain⟨hv,hpr,ht⟩:=whole_valid hne e
   have hlen:(printS { q with files:=sortF q.files }).length=(printS q).length:=by
    unfold printS
    simp only[List.length_append]
    rw[sum_perm_len (sortF_perm q.files)]
   have hc:=(clean_join (cutS (trimS t) [10]) hne (fun x hx=>⟨lines_ne _ _ _ _ e x hx,cut_no _ _ ler x hx⟩)).1
   rw[join_cut] at hpr hc
   have:trimS t=t:=by
    rw[hs,hpr] at hlen
    unfold trimS at hlen ⊢
    split
    ·rename_i h1
     rw[if_pos h1] at hlen
     have:t≠[]:=fun e=>by rw[e] at h1;cases h1
     have:0<t.length:=List.length_pos_iff.2 this
     rw[List.length_dropLast] at hlen
     omega
    ·rfl
   rw[this] at hc
   exact hc
theorem print_long{s:List UInt8}{p:Pk}(h:readS s=.inr p):11<=(printS p).length:=by
 obtain⟨_,h,_⟩:=read_print h
 unfold readS at h
 split at h
 ·cases h
 ·split at h
  ·cases h
  ·rename_i q e
   cases h
   have hne:cutS (trimS (printS { q with files:=sortF q.files })) [10]≠[]:=fun e=>by have:=(cutS_len (trimS (printS { q with files:=sortF q.files })) [10]).1;rw[e] at this;simp at this
   obtain⟨hv,hpr,ht⟩:=whole_valid hne e
   have h1:q.name≠[]:=title_ne ht
   have h2:q.ver≠[]:=by
    unfold titleS at ht
    split at ht
    ·split at ht
     ·rename_i hc
      cases ht
      intro e2
      have h3:=hc.2.2
      rw[e2] at h3
      revert h3
      decide
     ·cases ht
    ·cases ht
   have k1:=List.length_pos_iff.2 h1
   have k2:=List.length_pos_iff.2 h2
   unfold printS
   simp only[List.length_append,List.length_cons,List.length_nil]
   omega
theorem join2_len:∀ (l:List (List UInt8)),(∀ s∈l,11<=s.length)->11*(joinS [10,10] l).length<=13*(l.map List.length).sum
 | [],_=>by simp[joinS]
 | [x],_=>by simp[joinS];omega
 | x :: y :: r,h=>by
  have ih:=join2_len (y :: r) (fun s hs=>h s (by simp[hs]))
  have hx:=h x (by simp)
  have e:joinS [10,10] (x :: y :: r)=x++[10,10]++joinS [10,10] (y :: r):=rfl
  rw[e,List.map_cons,List.sum_cons]
  simp only[List.length_append,List.length_cons,List.length_nil]
  omega
theorem join2_nil{l:List (List UInt8)}(h:∀ s∈l,Clean s):joinS [10,10] l=[]↔l=[]:=by
 constructor
 ·intro e
  cases l with
  | nil=>rfl
  | cons x r=>
   have hx:=(h x (by simp)).ne
   cases r with
   | nil=>exact absurd e hx
   | cons y r=>simp[joinS] at e
 ·rintro rfl;rfl
end M
namespace M
def Back(p:Pk):Prop:=readS (printS p)=.inr p
theorem Back.name{p:Pk}(h:Back p):p.name≠[]:=(read_good h).2
theorem Back.good{p:Pk}(h:Back p):Good p:=(read_good h).1
theorem Back.of{s:List UInt8}{p:Pk}(h:readS s=.inr p):Back p:=(read_print h).2.1
structure Tog (l:List Pk):Prop where
 back:∀ p∈l,Back p
 apart:Apart l
 lack:lackingS l=[]
 bar:barringS l=[]
 clash:clashingS l=[]
theorem apart_nil:Apart []:=List.nodup_nil
theorem tog_nil:Tog []:=⟨fun p hp=>(by cases hp),apart_nil,rfl,rfl,rfl⟩
theorem paths_ne{l:List Pk}(hb:∀ p∈l,Back p):∀ p∈l,∀ f∈p.files,f.path≠[]:=fun p hp f hf=>(hb p hp).good.paths f hf
theorem barring_nil{l:List Pk}(ha:Apart l)(hb:∀ p∈l,Back p):barringS l=[]↔∀ p∈l,¬ Bars l p:=by
 rw[(barring_min ha (fun p hp=>(hb p hp).name)).nil_iff]
 constructor
 ·intro h p hp hB
  exact h p.name ⟨p,hp,hB,rfl⟩
 ·rintro h x ⟨p,hp,hB,_⟩
  exact h p hp hB
theorem clashing_nil{l:List Pk}(ha:Apart l)(hb:∀ p∈l,Back p):clashingS l=[]↔∀ x,¬ Clashes l x:=(clashing_min ha (paths_ne hb)).nil_iff
theorem barring_sub{l k:List Pk}(ha:Apart l)(hk:Apart k)(hb:∀ p∈l,Back p)(hs:∀ p∈k,p∈l)(h:barringS l=[]):barringS k=[]:=by
 rw[barring_nil hk (fun p hp=>hb p (hs p hp))]
 rw[barring_nil ha hb] at h
 rintro p hp ⟨q,hq,h1,h2⟩
 exact h p (hs p hp) ⟨q,hs q hq,h1,h2⟩
theorem clashing_sub{l k:List Pk}(ha:Apart l)(hk:Apart k)(hb:∀ p∈l,Back p)(hs:∀ p∈k,p∈l)(h:clashingS l=[]):clashingS k=[]:=by
 rw[clashing_nil hk (fun p hp=>hb p (hs p hp))]
 rw[clashing_nil ha hb] at h
 rintro x ⟨p,hp,q,hq,f,hf,g,hg,h1⟩
 exact h x ⟨p,hs p hp,q,hs q hq,f,hf,g,hg,h1⟩
theorem checked_ok{there fresh all all':List Pk}{names:List (List UInt8)}(h:checkedS there fresh all=.inr (all',names)):
 all'=all/\lackingS all=[]/\barringS all=[]/\clashingS all=[]/\firstOf (orderS there fresh.length fresh []).2=[]/\names=(orderS there fresh.length fresh []).1:=by
 unfold checkedS at h
 split at h
 ·cases h
 ·split at h
  ·cases h
  ·split at h
   ·cases h
   ·split at h
    ·cases h
    ·rename_i h1 h2 h3 h4
     cases h
     exact⟨rfl,Classical.not_not.1 h1,Classical.not_not.1 h2,Classical.not_not.1 h3,Classical.not_not.1 h4,rfl⟩
theorem order_sum(there:List Pk):∀ (n:Nat) (l:List Pk) (out:List (List UInt8)),(orderS there n l out).1.length+(orderS there n l out).2.length=out.length+l.length
 | 0,l,out=>rfl
 | n+1,l,out=>by
  unfold orderS
  split
  ·rfl
  ·split
   ·rfl
   ·rename_i k hk
    have hlt:=(List.findIdx?_eq_some_iff_getElem.1 hk).1
    rw[order_sum there n]
    simp only[List.length_append,List.length_take,List.length_drop,List.length_cons,List.length_nil]
    omega
theorem order_sub(there:List Pk):∀ (n:Nat) (l:List Pk) (out:List (List UInt8)),∀ p∈(orderS there n l out).2,p∈l
 | 0,l,out,p,hp=>hp
 | n+1,l,out,p,hp=>by
  unfold orderS at hp
  split at hp
  ·exact hp
  ·split at hp
   ·exact hp
   ·have:=order_sub there n _ _ p hp
    rcases List.mem_append.1 this with h|h
    ·exact List.mem_of_mem_take h
    ·exact List.mem_of_mem_drop h
theorem firstOf_nil{l:List Pk}(hn:∀ p∈l,p.name≠[]):firstOf l=[]↔l=[]:=by
 rw[(firstOf_min hn).nil_iff]
 constructor
 ·intro h
  exact List.eq_nil_iff_forall_not_mem.2 (fun p hp=>h p.name ⟨p,hp,rfl⟩)
 ·rintro rfl x ⟨p,hp,_⟩
  cases hp
theorem planned_ok{there all:List Pk}{texts names:List (List UInt8)}(h:plannedS there texts=.inr (all,names))(ht:∀ p∈there,Back p)(ha:Apart there):
 ∃ fresh,readAllS texts 0 []=.inr fresh/\all=there++fresh/\Tog all/\fresh.length=texts.length/\names.length=texts.length:=by
 unfold plannedS at h
 cases hr:readAllS texts 0 [] with
 | inl f=>rw[hr] at h;cases h
 | inr fresh=>
  rw[hr] at h
  simp only at h
  cases hq:addAllS fresh 0 there with
  | inl f=>rw[hq] at h;cases h
  | inr al=>
   rw[hq] at h
   simp only at h
   have e:=addAll_is _ _ _ _ hq
   have hap:=addAll_apart _ _ _ _ hq ha
   obtain⟨rfl,h1,h2,h3,h4,h5⟩:=checked_ok h
   have hlen:fresh.length=texts.length:=by have:=readAll_len _ _ _ _ hr;simpa using this
   have hfb:∀ p∈fresh,Back p:=fun p hp=>by
    rcases readAll_mem _ _ _ _ hr p hp with k|⟨t,_,k⟩
    ·cases k
    ·exact Back.of k
   refine⟨fresh,rfl,e,⟨?_,hap,h1,h2,h3⟩,hlen,?_⟩
   ·intro p hp
    rw[e] at hp
    exact(List.mem_append.1 hp).elim (ht p) (hfb p)
   ·have hl:=(firstOf_nil (fun p hp=>(hfb p (order_sub there _ _ _ p hp)).name)).1 h4
    have:=order_sum there fresh.length fresh []
    rw[hl] at this
    rw[h5,<-hlen]
    simpa using this
theorem plan_none{l:List Pk}(h:Tog l):plannedS l []=.inr (l,[]):=by
 unfold plannedS readAllS addAllS checkedS
 simp only
 rw[if_neg (by rw[h.lack];simp),if_neg (by rw[h.bar];simp),if_neg (by rw[h.clash];simp),if_neg (by simp[orderS,firstOf])]
 rfl
theorem installed_ok{there all:List Pk}{texts:List (List UInt8)}{room:Int}(h:installedS there texts room=.inr all)(ht:∀ p∈there,Back p)(ha:Apart there):
 ∃ fresh names,plannedS there texts=.inr (all,names)/\readAllS texts 0 []=.inr fresh/\all=there++fresh/\Tog all/\fresh.length=texts.length/\(sizeS all:Int)<=room:=by
 unfold installedS at h
 cases hp:plannedS there texts with
 | inl f=>rw[hp] at h;cases h
 | inr q=>
  obtain⟨al,names⟩:=q
  rw[hp] at h
  simp only at h
  split at h
  ·cases h
  ·cases h
   obtain⟨fresh,h1,h2,h3,h4,_⟩:=planned_ok hp ht ha
   exact⟨fresh,names,rfl,h1,h2,h3,h4,by omega⟩
theorem dropAll_sub:∀ (ns:List (List UInt8)) (i:Nat) (l all:List Pk),dropAllS ns i l=.inr all->all.Sublist l
 | [],i,l,all,h=>by simp only[dropAllS,Sum.inr.injEq] at h;subst h;exact List.Sublist.refl _
 | n :: ns,i,l,all,h=>by
  simp only[dropAllS] at h
  split at h
  ·cases h
  ·rename_i k hk
   refine(dropAll_sub ns _ _ _ h).trans ?_
   have e:l=l.take k++l.drop k:=(List.take_append_drop k l).symm
   conv=>rhs;rw[e]
   exact List.Sublist.append (List.Sublist.refl _) (by rw[<-List.drop_drop];exact List.drop_sublist _ _)
theorem size_sub{l k:List Pk}(h:k.Sublist l):sizeS k<=sizeS l:=by
 unfold sizeS
 induction h with
 | slnil=>exact Nat.le_refl _
 | cons a _ ih=>simp only[List.map_cons,List.sum_cons];omega
 | cons_cons a _ ih=>simp only[List.map_cons,List.sum_cons];omega
theorem removed_ok{there all:List Pk}{names:List (List UInt8)}(h:removedS there names=.inr all)(ht:Tog there):Tog all/\all.Sublist there/\sizeS all<=sizeS there:=by
 unfold removedS at h
 cases hd:dropAllS names 0 there with
 | inl f=>rw[hd] at h;cases h
 | inr al=>
  rw[hd] at h
  simp only at h
  split at h
  ·cases h
  ·rename_i hl
   cases h
   have hs:=dropAll_sub _ _ _ _ hd
   have hap:Apart all:=List.Nodup.sublist (hs.map Pk.name) ht.apart
   exact⟨⟨fun p hp=>ht.back p (hs.subset hp),hap,Classical.not_not.1 hl,barring_sub ht.apart hap ht.back (fun p hp=>hs.subset hp) ht.bar,clashing_sub ht.apart hap ht.back (fun p hp=>hs.subset hp) ht.clash⟩,hs,size_sub hs⟩
def rdO(t:List UInt8):Option Pk:=match readS t with
 | .inl _=>none
 | .inr p=>some p
theorem readAll_iff:∀ (ts:List (List UInt8)) (i:Nat) (acc l:List Pk),readAllS ts i acc=.inr l↔(∀ t∈ts,(rdO t).isSome=true)/\l=acc++ts.filterMap rdO
 | [],i,acc,l=>by
  simp only[readAllS,Sum.inr.injEq]
  constructor
  ·rintro rfl;simp
  ·rintro ⟨_,rfl⟩;simp
 | t :: ts,i,acc,l=>by
  simp only[readAllS]
  cases hr:readS t with
  | inl n=>
   simp only
   constructor
   ·intro h;cases h
   ·intro h
    have:=h.1 t (by simp)
    simp[rdO,hr] at this
  | inr p=>
   simp only
   rw[readAll_iff ts (i+1) (acc++[p]) l]
   have e:rdO t=some p:=by simp[rdO,hr]
   rw[List.filterMap_cons,e]
   simp only[List.append_assoc,List.singleton_append,List.mem_cons,forall_eq_or_imp,e,Option.isSome_some,true_and]
theorem addAll_iff:∀ (ps:List Pk) (i:Nat) (acc all:List Pk),Apart acc->(addAllS ps i acc=.inr all↔Apart (acc++ps)/\all=acc++ps)
 | [],i,acc,all,h=>by
  simp only[addAllS,Sum.inr.injEq,List.append_nil]
  constructor
  ·rintro rfl;exact⟨h,rfl⟩
  ·rintro ⟨_,rfl⟩;rfl
 | p :: ps,i,acc,all,h=>by
  simp only[addAllS]
  by_cases hp:0<=findS acc p.name
  ·rw[if_pos hp]
   constructor
   ·intro h;cases h
   ·rintro ⟨h1,_⟩
    exfalso
    have hex:¬ ∀ q∈acc,q.name≠p.name:=fun e=>absurd hp (find_neg.2 e)
    refine hex (fun q hq e=>?_)
    unfold Apart at h1
    rw[List.map_append,List.nodup_append] at h1
    exact h1.2.2 q.name (List.mem_map.2 ⟨q,hq,rfl⟩) p.name (by simp) e
  ·rw[if_neg hp]
   have hap:Apart (acc++[p]):=by
    have:=find_neg.1 hp
    unfold Apart at h ⊢
    rw[List.map_append,List.nodup_append]
    refine⟨h,by simp,fun a ha b hb e=>?_⟩
    obtain⟨q,hq,rfl⟩:=List.mem_map.1 ha
    simp only[List.map_cons,List.map_nil,List.mem_singleton] at hb
    exact this q hq (e.trans hb)
   rw[addAll_iff ps (i+1) (acc++[p]) all hap]
   simp only[List.append_assoc,List.singleton_append]
end M
namespace M
def packed(l:List Pk):List UInt8:=joinS [10,10] (textsS l)
theorem texts_mem{l:List Pk}(ha:Apart l){t:List UInt8}(h:t∈textsS l):∃ p∈l,t=printS p:=by
 unfold textsS at h
 obtain⟨n,hn,rfl⟩:=List.mem_map.1 h
 obtain⟨p,hp,rfl⟩:=List.mem_map.1 ((sortN_perm _).mem_iff.1 hn)
 exact⟨p,hp,textOf_mem ha hp⟩
theorem texts_prints{l:List Pk}(ha:Apart l):(textsS l).Perm (l.map printS):=by
 unfold textsS
 refine((sortN_perm _).map _).trans ?_
 rw[List.map_map]
 have:l.map (textOf l ∘ Pk.name)=l.map printS:=List.map_congr_left (fun p hp=>textOf_mem ha hp)
 rw[this]
theorem texts_len(l:List Pk):(textsS l).length=l.length:=by
 unfold textsS
 rw[List.length_map,(sortN_perm _).length_eq,List.length_map]
theorem texts_clean{l:List Pk}(hb:∀ p∈l,Back p)(ha:Apart l):∀ s∈textsS l,Clean s:=fun s hs=>by
 obtain⟨p,hp,rfl⟩:=texts_mem ha hs
 exact print_clean (hb p hp)
theorem packed_cut{l:List Pk}(hb:∀ p∈l,Back p)(ha:Apart l)(hne:l≠[]):cutS (packed l) [10,10]=textsS l/\packed l≠[]:=by
 have h0:textsS l≠[]:=fun e=>hne (List.length_eq_zero_iff.1 (by rw[<-texts_len l,e];rfl))
 exact⟨cut2_join _ h0 (texts_clean hb ha),fun e=>h0 ((join2_nil (texts_clean hb ha)).1 e)⟩
theorem texts_size{l:List Pk}(ha:Apart l):((textsS l).map List.length).sum=sizeS l:=by
 rw[((texts_prints ha).map _).sum_nat,List.map_map]
 rfl
theorem packed_len{l:List Pk}(hb:∀ p∈l,Back p)(ha:Apart l):11*(packed l).length<=13*sizeS l:=by
 rw[<-texts_size ha]
 exact join2_len _ (fun s hs=>by obtain⟨p,hp,rfl⟩:=texts_mem ha hs;exact print_long (hb p hp))
theorem packed_fits{l:List Pk}{n:Nat}(hb:∀ p∈l,Back p)(ha:Apart l)(h1:16<=n)(h2:n<=256)(hs:(sizeS l:Int)<=24*((n:Int)-8)):secN (packed l).length<=(n-1) / 2/\(packed l).length<65536:=by
 have h:=packed_len hb ha
 unfold secN
 constructor
 ·omega
 ·omega
theorem size_long{l:List Pk}(hb:∀ p∈l,Back p):11*l.length<=sizeS l:=by
 unfold sizeS
 induction l with
 | nil=>simp
 | cons p l ih=>
  have h1:=print_long (hb p (by simp))
  have h2:=ih (fun q hq=>hb q (by simp[hq]))
  simp only[List.map_cons,List.sum_cons,List.length_cons]
  omega
theorem found_texts{l:List Pk}(hb:∀ p∈l,Back p)(ha:Apart l):∃ m,readAllS (textsS l) 0 []=.inr m/\m.Perm l/\addAllS m 0 []=.inr m:=by
 have hrd:∀ p∈l,rdO (printS p)=some p:=fun p hp=>by
  have:=hb p hp
  unfold Back at this
  simp[rdO,this]
 have e:(l.map printS).filterMap rdO=l:=by
  clear ha
  induction l with
  | nil=>rfl
  | cons p l ih=>
   rw[List.map_cons,List.filterMap_cons,hrd p (by simp)]
   simp only
   rw[ih (fun q hq=>hb q (by simp[hq])) (fun q hq=>hrd q (by simp[hq]))]
 have hp:((textsS l).filterMap rdO).Perm l:=by
  have:=(texts_prints ha).filterMap rdO
  rwa [e] at this
 refine⟨(textsS l).filterMap rdO,(readAll_iff _ _ _ _).2 ⟨fun t ht=>?_,by simp⟩,hp,(addAll_iff _ _ _ _ apart_nil).2 ⟨by simpa using ha.perm hp.symm,by simp⟩⟩
 obtain⟨p,hp,rfl⟩:=texts_mem ha ht
 rw[hrd p hp]
 rfl
end M
end Go.Proofs.YtgnfknjopafngabGreatDoor
namespace Go.Proofs.YtgnfknjopafngabGreatDoor
open Go.RowKit Go.Maps
def splitT(t:List UInt8):List (List UInt8):=match t with
 | []=>[]
 | x :: l=>M.cutS (x :: l) [10,10]
theorem splitT_packed{l:List M.Pk}(hb:∀ p∈l,M.Back p)(ha:M.Apart l):splitT (M.packed l)=M.textsS l:=by
 cases l with
 | nil=>rfl
 | cons p l=>
  obtain⟨h1,h2⟩:=M.packed_cut hb ha (by simp)
  cases hp:M.packed (p :: l) with
  | nil=>exact absurd hp h2
  | cons x k=>
   rw[hp] at h1
   exact h1
theorem strs_own{w:World}{B:Nat}{v:Value}{l:List (List UInt8)}(h:w.ownsRow B 9 1 v l.length (l.map strV)):StrsIn w v (l.map fun t=>⟨t.toArray⟩):=by
 have e:(l.map fun t=>(⟨t.toArray⟩:ByteArray)).map Value.string=l.map strV:=by rw[List.map_map];rfl
 show RowIn w 0 w.heap.size v _ _
 rw[e,List.length_map]
 obtain h|⟨g,cap,h1,h2,h3,h4,h5⟩:=RowIn.own h
 ·exact .inl h
 ·exact .inr ⟨g,cap,h1,h2,Nat.zero_le _,h4,h5⟩
theorem split_any(t:List UInt8)(w:World)(hM:MaxIs w)(hl:t.length<=1000000)(hn:(splitT t).length<=10000):
 Calls Tryz.prog 131 #[.string ⟨t.toArray⟩] w fun e w'=>(∃ a n c,e=.returned (.slice a n c)/\w'.ownsRow w.heap.size 9 1 (.slice a n c) (splitT t).length ((splitT t).map strV))/\Below w.heap.size w w':=by
 cases t with
 | nil=>
  refine(split_none w).mono ?_
  rintro e w' ⟨rfl,rfl⟩
  exact⟨⟨_,_,_,rfl,World.ownsRow_nil _ _ _ _⟩,Below.refl _ _⟩
 | cons x l=>
  have c:=split_lib ⟨(x :: l).toArray⟩ ⟨#[10,10]⟩ ((splitT (x :: l)).map fun t=>⟨t.toArray⟩) w hM (by simpa [ByteArray.size] using hl) (by decide) (by rw[List.map_map];show M.cutS (x :: l) [10,10] = _;exact(List.map_id _).symm)
  have hlen:(((splitT (x :: l)).map fun t=>(⟨t.toArray⟩:ByteArray)).length)=(splitT (x :: l)).length:=List.length_map ..
  rw[hlen,List.map_map] at c
  have hw2:(w.alloc (.cells (((splitT (x :: l)).map strV)).toArray 9)).ownsRow w.heap.size 9 1 (.slice (some ⟨w.heap.size,0,none⟩) (splitT (x :: l)).length (splitT (x :: l)).length) (splitT (x :: l)).length ((splitT (x :: l)).map strV):=by
   refine⟨by simp,.inr ⟨w.heap.size,(splitT (x :: l)).length,_,rfl,Nat.le_refl _,heap_alloc_new w _,Nat.le_refl _,?_,by simp,by rw[Nat.mul_one,List.take_of_length_le (by simp)]⟩⟩
   unfold maxLen
   omega
  have HO:=hid hw2
  have hB:Below w.heap.size w (w.alloc (.cells (((splitT (x :: l)).map strV)).toArray 9)):=(Below.refl _ w).alloc ler _
  have e0:List.map (Value.string ∘ fun t=>(⟨t.toArray⟩:ByteArray)) (splitT (x :: l))=(splitT (x :: l)).map strV:=rfl
  rw[e0] at c
  generalize w.alloc (.cells (((splitT (x :: l)).map strV)).toArray 9)=A at c hw2 hB HO
  clear hw2 e0 hlen
  go_enter Tryz.func131,Tryz.ntmps131
  go_wp2_with (go_at_call 64;refine c.mono ?_;rintro e w2 ⟨rfl,rfl⟩)
  go_ret
  exact⟨⟨_,_,_,rfl,HO.out⟩,hB⟩
theorem dOpen_any(d n half:Nat)(hv sv lv:Value)(D:M.Dk)(t:List UInt8)(w:World)(hM:MaxIs w)(h:DiskIs w d hv sv lv D)(hl:M.Lies D.seen n half t)(h1:16<=n)(h2:n<=256)(hn:(splitT t).length<=10000):
 Calls Tryz.prog 80 #[.iface 57 (.pointer (some ⟨d,0,none⟩))] w fun e w'=>(∃ a m c,e=.returned (.tuple #[.pointer (some ⟨w.heap.size,0,none⟩),.slice a m c])/\w'.ownsRow w.heap.size 9 1 (.slice a m c) (splitT t).length ((splitT t).map strV))/\KnownAt w' w.heap.size d half/\Below w.heap.size w w':=by
 obtain⟨x0,hx0,hx1⟩:=hl.head
 have HD:=hid h
 have HM:=hid hM
 have HL:=hid hl
 have hsm:=hl.small
 have cH:=fun wx=>readHead_any x0 half t.length wx hx1
 generalize hA:w.alloc (.cells #[.iface 57 (.pointer (some ⟨d,0,none⟩)),.int .i64 0] 229)=A
 have hB:Below w.heap.size w A:=by rw[<-hA];exact(Below.refl _ w).alloc ler _
 have hk:KnownAt A w.heap.size d 0:=by rw[<-hA];exact heap_alloc_new w _
 have hlt:0<D.seen.length:=by rw[hl.len];omega
 have cK:=sector_any w.heap.size d 0 0 hv sv lv D.left D.dead D.held D.seen A hk (h.below hB).diskAt hlt
 have e0:D.seen[0]=x0:=by
  rw[List.getElem?_eq_getElem hlt] at hx0
  exact Option.some.inj hx0
 rw[e0] at cK
 have HK:=hid hk
 have hAs:w.heap.size<A.heap.size:=(ges.1 hk).1
 clear h hk hl hx0 hx1 e0 hM
 go_enter Tryz.func80,Tryz.ntmps80
 go_wp2_with (first
  | (go_at_call 130;refine cK.mono ?_;rintro e w2 ⟨rfl,hB2⟩)
  | (go_at_call 129;refine(cH w2).mono ?_;rintro e w3 ⟨rfl,hB3⟩;have k3:w3.heap[w.heap.size]? = some (.cells #[.iface 57 (.pointer (some ⟨d,0,none⟩)),.int .i64 0] 229 (0,0)):=((bt hB2 hB3).block _ hAs).trans HK.out;have x1:w3.cell? ⟨w.heap.size,1,none⟩=some (.int .i64 0):=(cell_of_row w3 _ 1 _ _ (0,0) k3).trans (by rfl);have x2:w3.frozen? ⟨w.heap.size,1,none⟩=false:=frozen_of_row w3 _ _ _ _ k3
     have hB13:Below w.heap.size w w3:=bt (bt hB hB2) hB3
     have hB14:Below w.heap.size w (w3.setCell ⟨w.heap.size,1,none⟩ (.int .i64 half)):=hB13.setCell ler _
     have k4:KnownAt (w3.setCell ⟨w.heap.size,1,none⟩ (.int .i64 half)) w.heap.size d half:=heap_setCell_same w3 w.heap.size 1 _ _ (.int .i64 half) k3
     have HK4:Hid (KnownAt (w3.setCell ⟨w.heap.size,1,none⟩ (.int .i64 half)) w.heap.size d half/\Below w.heap.size w (w3.setCell ⟨w.heap.size,1,none⟩ (.int .i64 half))):=⟨k4,hB14⟩
     clear k4 hB14 k3)
  | (go_at_call 132;refine(load_any w.heap.size d n half hv sv lv D t _ HK4.out.1 (HD.out.below HK4.out.2) HL.out h1 h2).mono ?_;rintro e w4 ⟨rfl,hB4⟩)
  | (go_at_call 131;refine(split_any t w4 (HM.out.below (bt HK4.out.2 hB4)) (by omega) hn).mono ?_;rintro e w5 ⟨⟨a5,n5,c5,rfl,h5⟩,hB5⟩;have H5:Hid _:=h5;clear h5))
 go_ret2
 have hB24:=bt HK4.out.2 hB4
 exact⟨⟨_,_,_,rfl,own_base H5.out hB24.size⟩,KnownAt.below (KnownAt.below HK4.out.1 hB4) hB5,bt hB24 hB5⟩
theorem mem_le_sum{l:List Nat}{a:Nat}(h:a∈l):a<=l.sum:=by
 induction l with
 | nil=>cases h
 | cons b l ih=>
  rcases List.mem_cons.1 h with rfl|h
  ·simp
  ·have:=ih h
   simp
   omega
theorem texts_short{l:List M.Pk}(ha:M.Apart l){t:List UInt8}(h:t∈M.textsS l):t.length<=M.sizeS l:=by
 rw[<-M.texts_size ha]
 exact mem_le_sum (List.mem_map.2 ⟨t,h,rfl⟩)
theorem pFound_any(B:Nat)(v:Value)(l:List M.Pk)(w:World)(hR:Ready w)(hb:∀ p∈l,M.Back p)(ha:M.Apart l)(hv:w.ownsRow B 9 1 v (M.textsS l).length ((M.textsS l).map strV))(hs:M.sizeS l<=8192)(hn:l.length<=1000):
 Calls Tryz.prog 81 #[v] w fun e w'=>∃ b,e=.returned (.map (some b))/\SetIn w' b l/\Below w.heap.size w w':=by
 have hmm:=@run_makeMap Tryz.prog
 obtain⟨av,cv,ev⟩:=own_form hv
 subst ev
 generalize hA:w.alloc (.map #[] 0)=A
 have hB:Below w.heap.size w A:=by rw[<-hA];exact(Below.refl _ w).alloc ler _
 have hS:SetIn A w.heap.size []:=⟨fun _=>.int .i64 0,by rw[<-hA];exact StrMap.made w,fun p hp=>by cases hp⟩
 have hR2:=hR.below hB
 have cA:=addAll_any w.heap.size [] _ _ A hR2.2 hR2.1 hS (strs_own (own_below hv hB)).txts (by rw[List.length_map,M.texts_len];omega) (fun t ht=>by
  obtain⟨q,hq,rfl⟩:=List.mem_map.1 ht
  have:=texts_short ha hq
  show q.toArray.size<=8192
  simp
  omega)
 obtain⟨m,m1,m2,m3⟩:=M.found_texts hb ha
 have e0:addedS [] (((M.textsS l).map fun t=>(⟨t.toArray⟩:ByteArray)).map fun t=>t.data.toList)=.inr m:=by
  rw[List.map_map,show ((fun t:ByteArray=>t.data.toList) ∘ fun t=>(⟨t.toArray⟩:ByteArray))=id from rfl,List.map_id]
  unfold addedS
  rw[m1]
  simp only
  rw[m3]
 rw[e0] at cA
 clear hS hR hR2 e0 m1 m3 hv
 go_enter Tryz.func81,Tryz.ntmps81
 go_wp2_with (go_at_call 133;refine cA.mono ?_;rintro e w2 ⟨hB2,b,rfl,hS2⟩)
 go_ret
 exact⟨b,rfl,hS2.perm m2,bt hB hB2⟩
theorem pOpen_any(d n half:Nat)(hv sv lv:Value)(D:M.Dk)(l:List M.Pk)(w:World)(hR:Ready w)(h:DiskIs w d hv sv lv D)(hl:M.Lies D.seen n half (M.packed l))(h1:16<=n)(h2:n<=256)(hb:∀ p∈l,M.Back p)(ha:M.Apart l)(hs:M.sizeS l<=8192)(hn:l.length<=1000):
 Calls Tryz.prog 37 #[.iface 57 (.pointer (some ⟨d,0,none⟩))] w fun e w'=>∃ s k b,e=.returned (.tuple #[.pointer (some ⟨s,0,none⟩),.nilIface])/\StoreAt w' s k b/\KnownAt w' k d half/\SetIn w' b l/\w.heap.size<=s/\w.heap.size<=k/\Below w.heap.size w w':=by
 have hsp:=splitT_packed hb ha
 have cO:=dOpen_any d n half hv sv lv D _ w hR.2 h hl h1 h2 (by rw[hsp,M.texts_len];omega)
 rw[hsp] at cO
 have HR:=hid hR
 clear h hR hl hsp
 go_enter Tryz.func37,Tryz.ntmps37
 go_wp2_with (go_at_call 80;refine cO.mono ?_;rintro e w1 ⟨⟨a1,m1,c1,rfl,hv1⟩,hk,hB1⟩;have HV:Hid _:=hv1;have HK:Hid (KnownAt w1 w.heap.size d half):=hk;clear hk hv1)
 have cF:=pFound_any _ _ l w1 (HR.out.below hB1) hb ha HV.out hs hn
 refine cF.mono ?_
 rintro e w2 ⟨b,rfl,hS,hB2⟩
 have HS:=hid hS
 clear hS cF cO
 go_wp2
 go_ret2
 have hk2:w.heap.size<w1.heap.size:=(ges.1 HK.out).1
 have hB3:Below w2.heap.size w2 (w2.alloc (.cells #[.pointer (some ⟨w.heap.size,0,none⟩),.map (some b)] 110)):=(Below.refl _ w2).alloc ler _
 exact⟨w2.heap.size,w.heap.size,b,rfl,heap_alloc_new w2 _,(hB3.block _ (Nat.lt_of_lt_of_le hk2 hB2.size)).trans ((hB2.block _ hk2).trans HK.out),HS.out.below hB3,Nat.le_trans hB1.size hB2.size,Nat.le_refl _,bt (bt hB1 hB2) hB3⟩
end Go.Proofs.YtgnfknjopafngabGreatDoor
