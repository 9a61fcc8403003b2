import Derived.Test.YtgnfknjopafngabGreatDoorKne
namespace Go.Proofs.YtgnfknjopafngabGreatDoor
namespace M
theorem less_irrefl:∀ a:List UInt8,Op.bytesLess a a=false
 | []=>rfl
 | a :: r=>by simp[Op.bytesLess,less_irrefl r]
theorem less_total:∀ {a b:List UInt8},Op.bytesLess a b=false->Op.bytesLess b a=false->a=b
 | [],[],_,_=>rfl
 | [],_ :: _,h,_=>by simp[Op.bytesLess] at h
 | _ :: _,[],_,h=>by simp[Op.bytesLess] at h
 | a :: x,b :: y,h,h'=>by
  simp only[Op.bytesLess,Bool.or_eq_false_iff,decide_eq_false_iff_not,Bool.and_eq_false_iff] at h h'
  have e:a=b:=UInt8.le_antisymm (UInt8.not_lt.1 h'.1) (UInt8.not_lt.1 h.1)
  subst e
  simp only[beq_self_eq_true,Bool.true_eq_false,false_or] at h h'
  rw[less_total h.2 h'.2]
theorem less_trans:∀ {a b c:List UInt8},Op.bytesLess a b=true->Op.bytesLess b c=true->Op.bytesLess a c=true
 | [],[],_,h,_=>by simp[Op.bytesLess] at h
 | [],_ :: _,[],_,h=>by simp[Op.bytesLess] at h
 | [],_ :: _,_ :: _,_,_=>rfl
 | _ :: _,[],_,h,_=>by simp[Op.bytesLess] at h
 | _ :: _,_ :: _,[],_,h=>by simp[Op.bytesLess] at h
 | a :: x,b :: y,c :: z,h,h'=>by
  simp only[Op.bytesLess,Bool.or_eq_true,decide_eq_true_eq,Bool.and_eq_true,beq_iff_eq] at h h' ⊢
  rcases h with h|⟨rfl,h⟩
  ·rcases h' with h'|⟨rfl,h'⟩
   ·exact .inl (UInt8.lt_trans h h')
   ·exact .inl h
  ·rcases h' with h'|⟨rfl,h'⟩
   ·exact .inl h'
   ·exact .inr ⟨rfl,less_trans h h'⟩
theorem less_asymm{a b:List UInt8}(h:Op.bytesLess a b=true):Op.bytesLess b a=false:=by
 cases hb:Op.bytesLess b a with
 | false=>rfl
 | true=>have:=less_trans h hb;rw[less_irrefl] at this;cases this
theorem le_less{a b c:List UInt8}(h:Op.bytesLess a b=true)(h':Op.bytesLess c b=false):Op.bytesLess a c=true:=by
 cases hbc:Op.bytesLess b c with
 | true=>exact less_trans h hbc
 | false=>rw[<-less_total hbc h'];exact h
theorem le_le{a b c:List UInt8}(h:Op.bytesLess b a=false)(h':Op.bytesLess c b=false):Op.bytesLess c a=false:=by
 cases hca:Op.bytesLess c a with
 | false=>rfl
 | true=>have:=le_less hca h;rw[h'] at this;cases this
def IsMin(S:List UInt8->Prop)(m:List UInt8):Prop:=(∀ x,S x->x≠[])/\((m=[]/\∀ x,¬ S x)\/(S m/\∀ x,S x->Op.bytesLess x m=false))
theorem IsMin.unique{S:List UInt8->Prop}{a b:List UInt8}(ha:IsMin S a)(hb:IsMin S b):a=b:=by
 obtain⟨_,⟨rfl,h⟩|⟨h,h'⟩⟩:=ha
 ·obtain⟨_,⟨rfl,_⟩|⟨k,_⟩⟩:=hb
  ·rfl
  ·exact absurd k (h _)
 ·obtain⟨_,⟨rfl,k⟩|⟨k,k'⟩⟩:=hb
  ·exact absurd h (k _)
  ·exact less_total (k' _ h) (h' _ k)
theorem IsMin.congr{S T:List UInt8->Prop}{a:List UInt8}(h:IsMin S a)(e:∀ x,S x↔T x):IsMin T a:=by
 have:S=T:=funext fun x=>propext (e x)
 rw[<-this];exact h
theorem IsMin.start:IsMin (fun _=>False) []:=⟨fun _ h=>h.elim,.inl ⟨rfl,fun _ h=>h⟩⟩
theorem IsMin.nil_iff{S:List UInt8->Prop}{a:List UInt8}(h:IsMin S a):a=[]↔∀ x,¬ S x:=by
 obtain⟨h0,⟨rfl,h⟩|⟨h,h'⟩⟩:=h
 ·exact⟨fun _=>h,fun _=>rfl⟩
 ·exact⟨fun e=>absurd e (h0 _ h),fun k=>absurd h (k _)⟩
theorem IsMin.add{S:List UInt8->Prop}{n y:List UInt8}(h:IsMin S n)(hy:y≠[]):IsMin (fun x=>S x\/x=y) (firstS n y):=by
 refine⟨fun x hx=>hx.elim (h.1 x) (fun e=>e ▸ hy),.inr ?_⟩
 obtain⟨h0,⟨rfl,h⟩|⟨h,h'⟩⟩:=h
 ·have e:firstS [] y=y:=by unfold firstS;rw[if_pos (.inl rfl)]
  rw[e]
  exact⟨.inr rfl,fun x hx=>hx.elim (fun k=>absurd k (h _)) (fun e=>e ▸ less_irrefl _)⟩
 ·have hn:n≠[]:=h0 _ h
  unfold firstS
  by_cases hl:Op.bytesLess y n=true
  ·rw[if_pos (.inr ⟨hy,hl⟩)]
   refine⟨.inr rfl,fun x hx=>hx.elim (fun k=>?_) (fun e=>e ▸ less_irrefl _)⟩
   exact le_le (less_asymm hl) (h' x k)
  ·rw[if_neg (fun k=>k.elim hn (fun k=>hl k.2))]
   exact⟨.inl h,fun x hx=>hx.elim (h' x) (fun e=>e ▸ by simpa using hl)⟩
theorem IsMin.fold{α:Type}{step:List UInt8->α->List UInt8}{T:α->List UInt8->Prop}:∀ (l:List α),(∀ n a S,a∈l->IsMin S n->IsMin (fun x=>S x\/T a x) (step n a))->∀ (n:List UInt8) (S:List UInt8->Prop),IsMin S n->IsMin (fun x=>S x\/∃ a∈l,T a x) (l.foldl step n)
 | [],_,n,S,h=>h.congr (fun x=>by simp)
 | a :: l,hs,n,S,h=>by
  refine(IsMin.fold l (fun n b S hb=>hs n b S (by simp[hb])) (step n a) _ (hs n a S (by simp) h)).congr (fun x=>?_)
  simp[or_assoc]
theorem IsMin.fold0{α:Type}{step:List UInt8->α->List UInt8}{T:α->List UInt8->Prop}(l:List α)(h:∀ n a S,a∈l->IsMin S n->IsMin (fun x=>S x\/T a x) (step n a)):IsMin (fun x=>∃ a∈l,T a x) (l.foldl step []):=
 (IsMin.fold l h [] _ IsMin.start).congr (fun x=>by simp)
theorem IsMin.skip{S T:List UInt8->Prop}{n:List UInt8}(h:IsMin S n)(ht:∀ x,¬ T x):IsMin (fun x=>S x\/T x) n:=h.congr (fun x=>⟨.inl,fun k=>k.elim id (fun k=>absurd k (ht x))⟩)
def Lacks(l:List Pk)(p:Pk):Prop:=∃ g∈p.needs,any1S g l=false
theorem lacking_min{l:List Pk}(hn:∀ p∈l,p.name≠[]):IsMin (fun x=>∃ p∈l,Lacks l p/\x=p.name) (lackingS l):=by
 unfold lackingS
 refine IsMin.fold0 l (fun n p S hp h=>?_)
 unfold lackP
 refine(IsMin.fold (T:=fun g x=>any1S g l=false/\x=p.name) p.needs (fun n g S hg h=>?_) n S h).congr (fun x=>?_)
 ·unfold lackG
  by_cases ha:any1S g l=true
  ·rw[if_pos ha]
   exact h.skip (fun x k=>by rw[ha] at k;exact Bool.noConfusion k.1)
  ·rw[if_neg ha]
   exact(h.add (hn p hp)).congr (fun x=>by simp[ha])
 ·unfold Lacks
  constructor
  ·rintro (k|⟨g,hg,k1,k2⟩)
   ·exact .inl k
   ·exact .inr ⟨⟨g,hg,k1⟩,k2⟩
  ·rintro (k|⟨⟨g,hg,k1⟩,k2⟩)
   ·exact .inl k
   ·exact .inr ⟨g,hg,k1,k2⟩
def Apart(l:List Pk):Prop:=(l.map Pk.name).Nodup
theorem Apart.inj{l:List Pk}(h:Apart l){i k:Nat}{p q:Pk}(hi:l[i]? = some p)(hk:l[k]? = some q):p.name=q.name↔i=k:=by
 constructor
 ·intro e
  obtain⟨hi',rfl⟩:=List.getElem?_eq_some_iff.1 hi
  obtain⟨hk',rfl⟩:=List.getElem?_eq_some_iff.1 hk
  have h':=List.pairwise_iff_getElem.1 (show (l.map Pk.name).Pairwise (·≠·) from h)
  rcases Nat.lt_trichotomy i k with hlt|e'|hlt
  ·exact absurd (by rw[List.getElem_map,List.getElem_map];exact e) (h' i k (by simpa using hi') (by simpa using hk') hlt)
  ·exact e'
  ·exact absurd (by rw[List.getElem_map,List.getElem_map];exact e.symm) (h' k i (by simpa using hk') (by simpa using hi') hlt)
 ·rintro rfl
  rw[hi] at hk
  cases hk
  rfl
theorem Apart.perm{l k:List Pk}(h:Apart l)(hp:l.Perm k):Apart k:=(hp.map Pk.name).nodup_iff.1 h
theorem Apart.eq{l:List Pk}(h:Apart l){p q:Pk}(hp:p∈l)(hq:q∈l)(e:p.name=q.name):p=q:=by
 obtain⟨i,hi⟩:=List.mem_iff_getElem?.1 hp
 obtain⟨k,hk⟩:=List.mem_iff_getElem?.1 hq
 have:=(h.inj hi hk).1 e
 subst this
 rw[hi] at hk
 cases hk
 rfl
def Bars(l:List Pk)(p:Pk):Prop:=∃ q∈l,q.name≠p.name/\any1S p.bars [q]=true
theorem barring_min{l:List Pk}(ha:Apart l)(hn:∀ p∈l,p.name≠[]):IsMin (fun x=>∃ p∈l,Bars l p/\x=p.name) (barringS l):=by
 unfold barringS
 refine(IsMin.fold0 (T:=fun i x=>∃ p,l[i]? = some p/\Bars l p/\x=p.name) (List.range l.length) (fun n i S hi h=>?_)).congr (fun x=>?_)
 ·have hi':i<l.length:=List.mem_range.1 hi
  unfold barP
  rw[List.getElem?_eq_getElem hi']
  dsimp only
  refine(IsMin.fold (T:=fun k x=>∃ q,l[k]? = some q/\q.name≠l[i].name/\any1S l[i].bars [q]=true/\x=l[i].name) (List.range l.length) (fun n k S hk h=>?_) n S h).congr (fun x=>?_)
  ·have hk':k<l.length:=List.mem_range.1 hk
   unfold barG
   rw[List.getElem?_eq_getElem hk']
   dsimp only
   have hne:l[k].name≠l[i].name↔k≠i:=not_congr (ha.inj (List.getElem?_eq_getElem hk') (List.getElem?_eq_getElem hi'))
   by_cases hb:any1S l[i].bars [l[k]]=true/\k≠i
   ·rw[if_pos hb]
    refine(h.add (hn _ (List.getElem_mem hi'))).congr (fun x=>or_congr Iff.rfl ⟨fun e=>⟨_,rfl,hne.2 hb.2,hb.1,e⟩,?_⟩)
    rintro ⟨q,e,_,_,e'⟩
    exact e'
   ·rw[if_neg hb]
    refine h.skip (fun x=>?_)
    rintro ⟨q,e,k1,k2,_⟩
    cases e
    exact hb ⟨k2,hne.1 k1⟩
  ·refine or_congr Iff.rfl ⟨?_,?_⟩
   ·rintro ⟨k,hk,q,e,k1,k2,rfl⟩
    exact⟨_,rfl,⟨q,List.mem_of_getElem? e,k1,k2⟩,rfl⟩
   ·rintro ⟨p,e,⟨q,hq,k1,k2⟩,rfl⟩
    cases e
    obtain⟨k,hk⟩:=List.mem_iff_getElem?.1 hq
    exact⟨k,List.mem_range.2 (List.getElem?_eq_some_iff.1 hk).1,q,hk,k1,k2,rfl⟩
 ·constructor
  ·rintro ⟨i,hi,p,e,k,rfl⟩
   exact⟨p,List.mem_of_getElem? e,k,rfl⟩
  ·rintro ⟨p,hp,k,rfl⟩
   obtain⟨i,hi⟩:=List.mem_iff_getElem?.1 hp
   exact⟨i,List.mem_range.2 (List.getElem?_eq_some_iff.1 hi).1,p,hi,k,rfl⟩
def Clashes(l:List Pk)(x:List UInt8):Prop:=∃ p∈l,∃ q∈l,∃ f∈p.files,∃ g∈q.files,(over f.path g.path=true\/(f.path=g.path/\p.name≠q.name))/\x=f.path
theorem clashing_min{l:List Pk}(ha:Apart l)(hn:∀ p∈l,∀ f∈p.files,f.path≠[]):IsMin (Clashes l) (clashingS l):=by
 unfold clashingS
 refine(IsMin.fold0 (T:=fun i x=>∃ p,l[i]? = some p/\∃ q∈l,∃ f∈p.files,∃ g∈q.files,(over f.path g.path=true\/(f.path=g.path/\p.name≠q.name))/\x=f.path) (List.range l.length) (fun n i S hi h=>?_)).congr (fun x=>?_)
 ·have hi':i<l.length:=List.mem_range.1 hi
  unfold clI
  rw[List.getElem?_eq_getElem hi']
  dsimp only
  refine(IsMin.fold (T:=fun k x=>∃ q,l[k]? = some q/\∃ f∈l[i].files,∃ g∈q.files,(over f.path g.path=true\/(f.path=g.path/\l[i].name≠q.name))/\x=f.path) (List.range l.length) (fun n k S hk h=>?_) n S h).congr (fun x=>?_)
  ·have hk':k<l.length:=List.mem_range.1 hk
   unfold clK
   rw[List.getElem?_eq_getElem hk']
   dsimp only
   have hne:l[i].name≠l[k].name↔i≠k:=not_congr (ha.inj (List.getElem?_eq_getElem hi') (List.getElem?_eq_getElem hk'))
   refine(IsMin.fold (T:=fun f x=>∃ g∈l[k].files,(over f.path g.path=true\/(f.path=g.path/\l[i].name≠l[k].name))/\x=f.path) l[i].files (fun n f S hf h=>?_) n S h).congr (fun x=>?_)
   ·unfold clA
    refine(IsMin.fold (T:=fun g x=>(over f.path g.path=true\/(f.path=g.path/\l[i].name≠l[k].name))/\x=f.path) l[k].files (fun n g S hg h=>?_) n S h)
    unfold clB
    by_cases hc:over f.path g.path=true\/(f.path=g.path/\i≠k)
    ·rw[if_pos hc]
     exact(h.add (hn _ (List.getElem_mem hi') _ hf)).congr (fun x=>or_congr Iff.rfl ⟨fun e=>⟨hc.imp id (fun k=>⟨k.1,hne.2 k.2⟩),e⟩,fun e=>e.2⟩)
    ·rw[if_neg hc]
     exact h.skip (fun x k=>hc (k.1.imp id (fun k=>⟨k.1,hne.1 k.2⟩)))
   ·refine or_congr Iff.rfl ⟨?_,?_⟩
    ·rintro ⟨f,hf,g,hg,k1,k2⟩;exact⟨_,rfl,f,hf,g,hg,k1,k2⟩
    ·rintro ⟨q,e,f,hf,g,hg,k1,k2⟩;cases e;exact⟨f,hf,g,hg,k1,k2⟩
  ·refine or_congr Iff.rfl ⟨?_,?_⟩
   ·rintro ⟨k,hk,q,e,r⟩;exact⟨_,rfl,q,List.mem_of_getElem? e,r⟩
   ·rintro ⟨p,e,q,hq,r⟩
    cases e
    obtain⟨k,hk⟩:=List.mem_iff_getElem?.1 hq
    exact⟨k,List.mem_range.2 (List.getElem?_eq_some_iff.1 hk).1,q,hk,r⟩
 ·constructor
  ·rintro ⟨i,hi,p,e,r⟩;exact⟨p,List.mem_of_getElem? e,r⟩
  ·rintro ⟨p,hp,r⟩
   obtain⟨i,hi⟩:=List.mem_iff_getElem?.1 hp
   exact⟨i,List.mem_range.2 (List.getElem?_eq_some_iff.1 hi).1,p,hi,r⟩
end M
namespace M
theorem waits_self(p:Pk)(there:List Pk):waitsS p p there=false:=by
 unfold waitsS
 rw[List.any_eq_false]
 intro g _
 unfold waitsG
 cases any1S g [p] <;> simp
def Free(l there:List Pk)(p:Pk):Prop:=∀ q∈l,waitsS p q there=false
theorem holds_fold(l there:List Pk)(i:Nat)(p:Pk):∀ (ks:List Nat) (b:Bool),ks.foldl (holdsS l there i p) b=true↔b=true/\∀ k∈ks,∀ q,l[k]? = some q->¬ (waitsS p q there=true/\k≠i)
 | [],b=>by simp
 | k :: ks,b=>by
  rw[List.foldl_cons,holds_fold l there i p ks]
  unfold holdsS
  cases h:l[k]? with
  | none=>
   simp only[List.mem_cons,forall_eq_or_imp]
   constructor
   ·rintro ⟨h1,h2⟩;exact⟨h1,fun q e=>(by rw[h] at e;cases e),h2⟩
   ·rintro ⟨h1,_,h2⟩;exact⟨h1,h2⟩
  | some q=>
   simp only[List.mem_cons,forall_eq_or_imp]
   by_cases hw:waitsS p q there=true/\k≠i
   ·rw[if_pos hw]
    constructor
    ·rintro ⟨h1,_⟩;cases h1
    ·rintro ⟨_,h1,_⟩;exact absurd hw (h1 q h)
   ·rw[if_neg hw]
    constructor
    ·rintro ⟨h1,h2⟩;exact⟨h1,fun q' e=>(by rw[h] at e;cases e;exact hw),h2⟩
    ·rintro ⟨h1,_,h2⟩;exact⟨h1,h2⟩
theorem free_iff{l there:List Pk}{i:Nat}{p:Pk}(hi:l[i]? = some p):freeS l there i p=true↔Free l there p:=by
 unfold freeS Free
 rw[holds_fold]
 constructor
 ·rintro ⟨_,h⟩ q hq
  obtain⟨k,hk⟩:=List.mem_iff_getElem?.1 hq
  have:=h k (List.mem_range.2 (List.getElem?_eq_some_iff.1 hk).1) q hk
  by_cases e:k=i
  ·subst e
   rw[hi] at hk
   cases hk
   exact waits_self p there
  ·cases hw:waitsS p q there with
   | false=>rfl
   | true=>exact absurd ⟨hw,e⟩ this
 ·intro h
  refine⟨rfl,fun k _ q hq hk=>?_⟩
  rw[h q (List.mem_of_getElem? hq)] at hk
  cases hk.1
theorem ready_min{l:List Pk}(there:List Pk)(hn:∀ p∈l,p.name≠[]):IsMin (fun x=>∃ p∈l,Free l there p/\x=p.name) (readyS l there):=by
 unfold readyS
 refine(IsMin.fold0 (T:=fun i x=>∃ p,l[i]? = some p/\Free l there p/\x=p.name) (List.range l.length) (fun n i S hi h=>?_)).congr (fun x=>?_)
 ·have hi':i<l.length:=List.mem_range.1 hi
  unfold readyI
  rw[List.getElem?_eq_getElem hi']
  dsimp only
  have hf:=free_iff (there:=there) (List.getElem?_eq_getElem hi')
  by_cases h1:freeS l there i l[i]=true
  ·rw[if_pos h1]
   refine(h.add (hn _ (List.getElem_mem hi'))).congr (fun x=>or_congr Iff.rfl ⟨fun e=>⟨_,rfl,hf.1 h1,e⟩,?_⟩)
   rintro ⟨q,e,_,e'⟩
   cases e
   exact e'
  ·rw[if_neg h1]
   refine h.skip (fun x=>?_)
   rintro ⟨q,e,k,_⟩
   cases e
   exact h1 (hf.2 k)
 ·constructor
  ·rintro ⟨i,hi,p,e,k,rfl⟩
   exact⟨p,List.mem_of_getElem? e,k,rfl⟩
  ·rintro ⟨p,hp,k,rfl⟩
   obtain⟨i,hi⟩:=List.mem_iff_getElem?.1 hp
   exact⟨i,List.mem_range.2 (List.getElem?_eq_some_iff.1 hi).1,p,hi,k,rfl⟩
def Rising(r:List (List UInt8)):Prop:=r.Pairwise fun a b=>Op.bytesLess a b=true
theorem Rising.nodup{r:List (List UInt8)}(h:Rising r):r.Nodup:=h.imp (fun {a b} hl e=>by subst e;rw[less_irrefl] at hl;cases hl)
theorem Rising.min{S:List UInt8->Prop}{m n:List UInt8}{r:List (List UInt8)}(h:Rising (n :: r))(hm:IsMin S m)(hS:∀ x,x∈n :: r↔S x):m=n:=by
 refine hm.unique ⟨hm.1,.inr ⟨(hS n).1 (by simp),fun x hx=>?_⟩⟩
 rcases List.mem_cons.1 ((hS x).2 hx) with rfl|hx
 ·exact less_irrefl _
 ·exact less_asymm ((List.pairwise_cons.1 h).1 x hx)
theorem Rising.none{S:List UInt8->Prop}{m:List UInt8}(hm:IsMin S m)(hS:∀ x,¬ S x):m=[]:=hm.nil_iff.2 hS
theorem Rising.eq:∀ {r s:List (List UInt8)},Rising r->Rising s->(∀ x,x∈r↔x∈s)->r=s
 | [],[],_,_,_=>rfl
 | [],b :: s,_,_,h=>by have:=(h b).2 (by simp);simp at this
 | a :: r,[],_,_,h=>by have:=(h a).1 (by simp);simp at this
 | a :: r,b :: s,hr,hs,h=>by
  obtain⟨r1,r2⟩:=List.pairwise_cons.1 hr
  obtain⟨s1,s2⟩:=List.pairwise_cons.1 hs
  have e:a=b:=by
   rcases List.mem_cons.1 ((h a).1 (by simp)) with e|ha
   ·exact e
   ·rcases List.mem_cons.1 ((h b).2 (by simp)) with e|hb
    ·exact e.symm
    ·have:=less_trans (r1 b hb) (s1 a ha)
     rw[less_irrefl] at this
     cases this
  subst e
  congr 1
  refine Rising.eq r2 s2 (fun x=>?_)
  have:=h x
  simp only[List.mem_cons] at this
  constructor
  ·intro hx
   rcases this.1 (.inr hx) with e|h'
   ·subst e;have:=r1 x hx;rw[less_irrefl] at this;cases this
   ·exact h'
  ·intro hx
   rcases this.2 (.inr hx) with e|h'
   ·subst e;have:=s1 x hx;rw[less_irrefl] at this;cases this
   ·exact h'
theorem apart_cut{l:List Pk}(ha:Apart l){k:Nat}(hk:k<l.length):l.take k++l.drop (k+1)=l.filter (fun p=>p.name != l[k].name):=by
 have e:l=l.take k++l[k] :: l.drop (k+1):=by simp
 have hl:∀ (i:Nat) (p:Pk),l[i]? = some p->i≠k->(p.name != l[k].name)=true:=fun i p hi hne=>by
  have:=not_congr (ha.inj hi (List.getElem?_eq_getElem hk))
  simpa using this.2 hne
 have e2:l.filter (fun p=>p.name != l[k].name)=(l.take k++l[k] :: l.drop (k+1)).filter (fun p=>p.name != l[k].name):=congrArg (List.filter _) e
 rw[e2,List.filter_append,List.filter_cons_of_neg (by simp)]
 congr 1
 ·symm
  rw[List.filter_eq_self]
  intro p hp
  obtain⟨i,hi⟩:=List.mem_iff_getElem?.1 hp
  rw[List.getElem?_take] at hi
  split at hi
  ·exact hl i p hi (by omega)
  ·cases hi
 ·symm
  rw[List.filter_eq_self]
  intro p hp
  obtain⟨i,hi⟩:=List.mem_iff_getElem?.1 hp
  rw[List.getElem?_drop] at hi
  exact hl _ p hi (by omega)
theorem Apart.filter{l:List Pk}(h:Apart l)(f:Pk->Bool):Apart (l.filter f):=by
 unfold Apart at *
 exact List.Nodup.sublist ((List.filter_sublist (p:=f) (l:=l)).map Pk.name) h
theorem order_next{l there:List Pk}{out:List (List UInt8)}{n:List UInt8}(ha:Apart l)(hr:readyS l there=n)(hn:n≠[]):
 orderS there l.length l out=orderS there (l.filter fun p=>p.name != n).length (l.filter fun p=>p.name != n) (out++[n]):=by
 subst hr
 obtain⟨k,hk,hf⟩:=ready_find hn
 rw[order_step hn hk hf,apart_cut ha hk]
 have:l[k].name=readyS l there:=by
  have:=(List.findIdx?_eq_some_iff_getElem.1 hf).2.1
  simpa using this
 rw[this]
def waitN(l there:List Pk)(p:Pk):Nat:=(l.filter fun q=>waitsS p q there).length
theorem waitN_zero{l there:List Pk}{p:Pk}:waitN l there p=0↔Free l there p:=by
 unfold waitN Free
 rw[List.length_eq_zero_iff,List.filter_eq_nil_iff]
 constructor
 ·intro h q hq;have:=h q hq;simpa using this
 ·intro h q hq;rw[h q hq];simp
theorem waitN_less{l there:List Pk}(ha:Apart l){q:Pk}(hq:q∈l)(p:Pk):waitN l there p=waitN (l.filter fun r=>r.name != q.name) there p+(if waitsS p q there=true then 1 else 0):=by
 obtain⟨k,hk,rfl⟩:=List.getElem_of_mem hq
 rw[<-apart_cut ha hk]
 unfold waitN
 conv=>lhs;rw[show l=l.take k++l[k] :: l.drop (k+1) by simp]
 simp only[List.filter_append,List.length_append]
 by_cases hw:waitsS p l[k] there=true
 ·rw[List.filter_cons_of_pos (p:=fun q=>waitsS p q there) hw,if_pos hw,List.length_cons];omega
 ·rw[List.filter_cons_of_neg (p:=fun q=>waitsS p q there) hw,if_neg hw];rfl
def firstOf(l:List Pk):List UInt8:=l.foldl (fun n p=>firstS n p.name) []
theorem firstOf_min{l:List Pk}(hn:∀ p∈l,p.name≠[]):IsMin (fun x=>∃ p∈l,x=p.name) (firstOf l):=by
 unfold firstOf
 exact IsMin.fold0 l (fun n p S hp h=>h.add (hn p hp))
end M
namespace M
structure Fa where
 kind:Nat
 which:Nat
 line:Nat
 name:List UInt8
def okFa:Fa:=⟨0,0,0,[]⟩
def readAllS:List (List UInt8)->Nat->List Pk->Sum Fa (List Pk)
 | [],_,acc=>.inr acc
 | t :: ts,i,acc=>match readS t with
  | .inl n=>.inl ⟨1,i,n,[]⟩
  | .inr p=>readAllS ts (i+1) (acc++[p])
def addAllS:List Pk->Nat->List Pk->Sum Fa (List Pk)
 | [],_,all=>.inr all
 | p :: ps,i,all=>if 0<=findS all p.name then .inl ⟨2,i,0,p.name⟩ else addAllS ps (i+1) (all++[p])
def checkedS(there fresh all:List Pk):Sum Fa (List Pk × List (List UInt8)):=
 if lackingS all≠[] then .inl ⟨4,0,0,lackingS all⟩
 else if barringS all≠[] then .inl ⟨5,0,0,barringS all⟩
 else if clashingS all≠[] then .inl ⟨6,0,0,clashingS all⟩
 else if firstOf (orderS there fresh.length fresh []).2≠[] then .inl ⟨7,0,0,firstOf (orderS there fresh.length fresh []).2⟩
 else .inr (all,(orderS there fresh.length fresh []).1)
def plannedS(there:List Pk)(texts:List (List UInt8)):Sum Fa (List Pk × List (List UInt8)):=
 match readAllS texts 0 [] with
 | .inl f=>.inl f
 | .inr fresh=>match addAllS fresh 0 there with
  | .inl f=>.inl f
  | .inr all=>checkedS there fresh all
def sizeS(l:List Pk):Nat:=(l.map fun p=>(printS p).length).sum
def installedS(there:List Pk)(texts:List (List UInt8))(room:Int):Sum Fa (List Pk):=
 match plannedS there texts with
 | .inl f=>.inl f
 | .inr (all,_)=>if room<sizeS all then .inl ⟨8,0,0,[]⟩ else .inr all
def dropAllS:List (List UInt8)->Nat->List Pk->Sum Fa (List Pk)
 | [],_,all=>.inr all
 | n :: ns,i,all=>match all.findIdx? (fun p=>p.name == n) with
  | none=>.inl ⟨3,i,0,n⟩
  | some k=>dropAllS ns (i+1) (all.take k++all.drop (k+1))
def removedS(there:List Pk)(names:List (List UInt8)):Sum Fa (List Pk):=
 match dropAllS names 0 there with
 | .inl f=>.inl f
 | .inr all=>if lackingS all≠[] then .inl ⟨4,0,0,lackingS all⟩ else .inr all
theorem readAll_snoc:∀ (ts:List (List UInt8)) (i:Nat) (acc l:List Pk) (t:List UInt8) (r:List (List UInt8)),readAllS ts i acc=.inr l->readAllS (ts++t :: r) i acc=(match readS t with | .inl n=>.inl ⟨1,i+ts.length,n,[]⟩ | .inr p=>readAllS r (i+ts.length+1) (l++[p]))
 | [],i,acc,l,t,r,h=>by simp only[readAllS,Sum.inr.injEq] at h;subst h;rfl
 | s :: ts,i,acc,l,t,r,h=>by
  simp only[readAllS,List.cons_append] at h ⊢
  cases hs:readS s with
  | inl n=>rw[hs] at h;cases h
  | inr p=>
   rw[hs] at h
   simp only at h ⊢
   rw[readAll_snoc ts (i+1) (acc++[p]) l t r h,List.length_cons,show i+1+ts.length=i+(ts.length+1) by omega]
theorem readAll_len:∀ (ts:List (List UInt8)) (i:Nat) (acc l:List Pk),readAllS ts i acc=.inr l->l.length=acc.length+ts.length
 | [],i,acc,l,h=>by simp only[readAllS,Sum.inr.injEq] at h;subst h;rfl
 | s :: ts,i,acc,l,h=>by
  simp only[readAllS] at h
  cases hs:readS s with
  | inl n=>rw[hs] at h;cases h
  | inr p=>
   rw[hs] at h
   have:=readAll_len ts (i+1) (acc++[p]) l h
   simp at this ⊢
   omega
theorem readAll_mem:∀ (ts:List (List UInt8)) (i:Nat) (acc l:List Pk),readAllS ts i acc=.inr l->∀ p∈l,p∈acc\/∃ t∈ts,readS t=.inr p
 | [],i,acc,l,h=>by simp only[readAllS,Sum.inr.injEq] at h;subst h;exact fun p hp=>.inl hp
 | s :: ts,i,acc,l,h=>by
  simp only[readAllS] at h
  cases hs:readS s with
  | inl n=>rw[hs] at h;cases h
  | inr q=>
   rw[hs] at h
   intro p hp
   rcases readAll_mem ts (i+1) (acc++[q]) l h p hp with h'|⟨t,ht,e⟩
   ·rcases List.mem_append.1 h' with h'|h'
    ·exact .inl h'
    ·simp at h';subst h';exact .inr ⟨s,by simp,hs⟩
   ·exact .inr ⟨t,by simp[ht],e⟩
theorem addAll_snoc:∀ (ps:List Pk) (i:Nat) (acc all:List Pk) (p:Pk) (r:List Pk),addAllS ps i acc=.inr all->addAllS (ps++p :: r) i acc=(if 0<=findS all p.name then .inl ⟨2,i+ps.length,0,p.name⟩ else addAllS r (i+ps.length+1) (all++[p]))
 | [],i,acc,all,p,r,h=>by simp only[addAllS,Sum.inr.injEq] at h;subst h;rfl
 | q :: ps,i,acc,all,p,r,h=>by
  simp only[addAllS,List.cons_append] at h ⊢
  by_cases hq:0<=findS acc q.name
  ·rw[if_pos hq] at h;cases h
  ·rw[if_neg hq] at h ⊢
   rw[addAll_snoc ps (i+1) (acc++[q]) all p r h,List.length_cons,show i+1+ps.length=i+(ps.length+1) by omega]
theorem addAll_is:∀ (ps:List Pk) (i:Nat) (acc all:List Pk),addAllS ps i acc=.inr all->all=acc++ps
 | [],i,acc,all,h=>by simp only[addAllS,Sum.inr.injEq] at h;subst h;simp
 | q :: ps,i,acc,all,h=>by
  simp only[addAllS] at h
  by_cases hq:0<=findS acc q.name
  ·rw[if_pos hq] at h;cases h
  ·rw[if_neg hq] at h
   rw[addAll_is ps (i+1) (acc++[q]) all h];simp
theorem find_neg{l:List Pk}{n:List UInt8}:¬ 0<=findS l n↔∀ p∈l,p.name≠n:=by
 unfold findS
 cases h:l.findIdx? (fun p=>p.name == n) with
 | none=>
  refine⟨fun _ p hp=>?_,fun _=>by simp⟩
  simpa using List.findIdx?_eq_none_iff.1 h p hp
 | some k=>
  obtain⟨hk,e,_⟩:=List.findIdx?_eq_some_iff_getElem.1 h
  refine⟨fun h=>by simp only at h;omega,fun h=>absurd (by simpa using e) (h _ (List.getElem_mem hk))⟩
theorem addAll_apart:∀ (ps:List Pk) (i:Nat) (acc all:List Pk),addAllS ps i acc=.inr all->Apart acc->Apart all
 | [],i,acc,all,h,ha=>by simp only[addAllS,Sum.inr.injEq] at h;subst h;exact ha
 | q :: ps,i,acc,all,h,ha=>by
  simp only[addAllS] at h
  by_cases hq:0<=findS acc q.name
  ·rw[if_pos hq] at h;cases h
  ·rw[if_neg hq] at h
   refine addAll_apart ps (i+1) (acc++[q]) all h ?_
   have:=find_neg.1 hq
   unfold Apart at *
   rw[List.map_append]
   refine List.nodup_append.2 ⟨ha,by simp,?_⟩
   intro a ha' b hb
   obtain⟨p,hp,rfl⟩:=List.mem_map.1 ha'
   simp at hb
   subst hb
   exact this p hp
end M
namespace M
structure Good (p:Pk):Prop where
 needs:∀ g∈p.needs,∀ c∈g,c.name≠[]
 bars:∀ c∈p.bars,c.name≠[]
 paths:∀ f∈p.files,f.path≠[]
 files:p.files.Pairwise fun f g=>apart f g=true
theorem name_ne{s:List UInt8}(h:isNameS s=true):s≠[]:=by
 rintro rfl
 revert h
 decide
theorem choice_ne{s:List UInt8}{c:Ch}(h:choiceS s=some c):c.name≠[]:=by
 unfold choiceS at h
 split at h
 ·rename_i p0 e
  split at h
  ·rename_i hn
   cases h
   rintro rfl
   have:cutS [] [32]=[[]]:=by decide
   rw[this] at e
   cases e
   exact name_ne hn rfl
  ·cases h
 ·split at h
  ·rename_i hn
   cases h
   exact name_ne hn.1
  ·cases h
 ·cases h
theorem all_ne{l:List (List UInt8)}:∀ {r:List Ch},allS choiceS l=some r->∀ c∈r,c.name≠[]:=by
 induction l with
 | nil=>intro r h;simp only[allS,Option.some.injEq] at h;subst h;intro c hc;cases hc
 | cons s l ih=>
  intro r h
  simp only[allS] at h
  split at h
  ·cases h
  ·rename_i c0 h0
   split at h
   ·cases h
   ·rename_i r' hr
    cases h
    intro c hc
    rcases List.mem_cons.1 hc with rfl|hc
    ·exact choice_ne h0
    ·exact ih hr c hc
theorem choices_ne{s sep:List UInt8}{m:Nat}{l:List Ch}(h:choicesS s sep m=some l):∀ c∈l,c.name≠[]:=by
 unfold choicesS at h
 split at h
 ·cases h
 ·rename_i r hr
  split at h
  ·cases h;exact all_ne hr
  ·cases h
theorem groups_ne{l:List (List UInt8)}:∀ {r:List (List Ch)},allS groupS l=some r->∀ g∈r,∀ c∈g,c.name≠[]:=by
 induction l with
 | nil=>intro r h;simp only[allS,Option.some.injEq] at h;subst h;intro c hc;cases hc
 | cons s l ih=>
  intro r h
  simp only[allS] at h
  split at h
  ·cases h
  ·rename_i c0 h0
   split at h
   ·cases h
   ·rename_i r' hr
    cases h
    intro g hg
    rcases List.mem_cons.1 hg with rfl|hg
    ·exact choices_ne h0
    ·exact ih hr g hg
theorem file_ne{s:List UInt8}{f:Fl}(h:fileS s=some f):f.path≠[]:=by
 unfold fileS at h
 split at h
 ·cases h
 ·split at h
  ·rename_i hc
   cases h
   intro e
   have:=hc.1
   dsimp only at e
   rw[e] at this
   revert this
   decide
  ·cases h
theorem apart_symm{f g:Fl}(h:apart f g=true):apart g f=true:=by
 unfold apart at *
 simp only[Bool.and_eq_true,Bool.not_eq_true',beq_eq_false_iff_ne] at h ⊢
 exact⟨⟨h.1.2,h.1.1⟩,fun e=>h.2 e.symm⟩
theorem line_good{p q:Pk}{k:Nat}{s:List UInt8}(hp:Good p)(h:lineS p k s=some q):Good q:=by
 unfold lineS at h
 split at h
 ·split at h
  ·cases h
  ·cases h
   exact⟨hp.needs,hp.bars,hp.paths,hp.files⟩
 ·split at h
  ·split at h
   ·cases h
   ·rename_i l hl
    split at h
    ·cases h
     exact⟨groups_ne hl,hp.bars,hp.paths,hp.files⟩
    ·cases h
  ·split at h
   ·split at h
    ·cases h
    ·rename_i l hl
     cases h
     exact⟨hp.needs,choices_ne hl,hp.paths,hp.files⟩
   ·split at h
    ·split at h
     ·cases h
     ·rename_i f hf
      split at h
      ·rename_i ha
       cases h
       refine⟨hp.needs,hp.bars,fun g hg=>?_,?_⟩
       ·rcases List.mem_append.mp hg with hg|hg
        ·exact hp.paths g hg
        ·simp at hg
         subst hg
         exact file_ne hf
       ·show (p.files++[f]).Pairwise _
        refine List.pairwise_append.2 ⟨hp.files,by simp,fun g hg x hx=>?_⟩
        simp at hx
        subst hx
        exact apart_symm (List.all_eq_true.1 ha g hg)
      ·cases h
    ·cases h
theorem lines_good:∀ {l:List (List UInt8)} {k:Nat} {p q:Pk},Good p->linesS l k p=.inr q->Good q
 | [],k,p,q,hp,h=>by simp only[linesS,Sum.inr.injEq] at h;subst h;exact hp
 | s :: l,k,p,q,hp,h=>by
  simp only[linesS] at h
  split at h
  ·cases h
  ·rename_i p' e
   exact lines_good (line_good hp e) h
theorem title_ne{s a b:List UInt8}(h:titleS s=some (a,b)):a≠[]:=by
 unfold titleS at h
 split at h
 ·split at h
  ·rename_i hc;cases h;exact name_ne hc.2.1
  ·cases h
 ·cases h
theorem line_name{p q:Pk}{k:Nat}{s:List UInt8}(hk:0<k)(h:lineS p k s=some q):q.name=p.name:=by
 unfold lineS at h
 rw[if_neg (by omega)] at h
 split at h
 ·split at h
  ·cases h
  ·split at h
   ·cases h;rfl
   ·cases h
 ·split at h
  ·split at h
   ·cases h
   ·cases h;rfl
  ·split at h
   ·split at h
    ·cases h
    ·split at h
     ·cases h;rfl
     ·cases h
   ·cases h
theorem lines_name:∀ {l:List (List UInt8)} {k:Nat} {p q:Pk},0<k->linesS l k p=.inr q->q.name=p.name
 | [],k,p,q,_,h=>by simp only[linesS,Sum.inr.injEq] at h;subst h;rfl
 | s :: l,k,p,q,hk,h=>by
  simp only[linesS] at h
  split at h
  ·cases h
  ·rename_i p' e
   rw[lines_name (Nat.succ_pos k) h,line_name hk e]
theorem swap_perm{α:Type}:∀ (l:List α) (k:Nat),(swapAt l k).Perm l
 | [],_=>by unfold swapAt;simp
 | [a],0=>by unfold swapAt;simp
 | a :: b :: l,0=>by unfold swapAt;simp;exact List.Perm.swap _ _ _
 | a :: l,k+1=>by
  have e:swapAt (a :: l) (k+1)=a :: swapAt l k:=by
   unfold swapAt
   simp only[List.getElem?_cons_succ]
   split <;> simp_all
  rw[e]
  exact(swap_perm l k).cons a
theorem bub_perm:∀ (k:Nat) (l:List Fl),(bub k l).Perm l
 | 0,l=>List.Perm.refl _
 | k+1,l=>by
  unfold bub
  split
  ·split
   ·exact(bub_perm k _).trans (swap_perm l k)
   ·exact List.Perm.refl _
  ·exact List.Perm.refl _
theorem srt_perm:∀ (m i:Nat) (l:List Fl),(srt m i l).Perm l
 | 0,_,l=>List.Perm.refl _
 | m+1,i,l=>by
  unfold srt
  split
  ·exact(srt_perm m _ _).trans (bub_perm i l)
  ·exact List.Perm.refl _
theorem sortF_perm(l:List Fl):(sortF l).Perm l:=srt_perm _ _ _
theorem empty_good:Good emptyPk:=⟨by simp[emptyPk],by simp[emptyPk],by simp[emptyPk],by simp[emptyPk]⟩
theorem read_good{s:List UInt8}{p:Pk}(h:readS s=.inr p):Good p/\p.name≠[]:=by
 unfold readS at h
 split at h
 ·cases h
 ·split at h
  ·cases h
  ·rename_i q e
   cases h
   have hq:=lines_good empty_good e
   refine⟨⟨hq.needs,hq.bars,fun f hf=>hq.paths f ((sortF_perm _).mem_iff.1 hf),((sortF_perm q.files).pairwise_iff (fun {a b} hab=>apart_symm hab)).2 hq.files⟩,?_⟩
   show q.name≠[]
   cases hc:cutS (trimS s) [10] with
   | nil=>have:=(cutS_len (trimS s) [10]).1;rw[hc] at this;simp at this
   | cons x r=>
    rw[hc] at e
    simp only[linesS] at e
    split at e
    ·cases e
    ·rename_i p' hp
     rw[lines_name (by omega) e]
     unfold lineS at hp
     rw[if_pos rfl] at hp
     split at hp
     ·cases hp
     ·rename_i a b ht
      cases hp
      exact title_ne ht
end M
theorem choiceS_short{s:List UInt8}{c:M.Ch}(h:M.choiceS s=some c)(hs:s.length<=8000):c.name.length<=8000/\c.sign.length<=8000/\c.ver.length<=8000:=by
 have hm:=M.cutS_mem s [32]
 unfold M.choiceS at h
 split at h
 ·split at h
  ·cases h;exact⟨hs,Nat.zero_le _,Nat.zero_le _⟩
  ·cases h
 ·rename_i p0 p1 p2 e
  rw[e] at hm
  have h0:=hm p0 (by simp)
  have h1:=hm p1 (by simp)
  have h2:=hm p2 (by simp)
  split at h
  ·cases h
   refine⟨Nat.le_trans h0 hs,?_,?_⟩
   ·simp only[List.length_drop];omega
   ·simp only[List.length_take];omega
  ·cases h
 ·cases h
theorem allS_mem{α:Type}{f:List UInt8->Option α}:∀ {l:List (List UInt8)} {r:List α},M.allS f l=some r->r.length=l.length/\∀ y∈r,∃ x∈l,f x=some y
 | [],r,h=>by simp only[M.allS,Option.some.injEq] at h;subst h;simp
 | s :: l,r,h=>by
  simp only[M.allS] at h
  split at h
  ·cases h
  ·rename_i c hc
   split at h
   ·cases h
   ·rename_i r' hr
    cases h
    obtain⟨h1,h2⟩:=allS_mem hr
    refine⟨by simp[h1],fun y hy=>?_⟩
    rcases List.mem_cons.mp hy with rfl|hy
    ·exact⟨s,by simp,hc⟩
    ·obtain⟨x,hx,e⟩:=h2 y hy
     exact⟨x,by simp[hx],e⟩
theorem choicesS_short{s sep:List UInt8}{m:Nat}{l:List M.Ch}(h:M.choicesS s sep m=some l)(hm:m<=1000)(hs:s.length<=8000):ShortC l:=by
 refine⟨Nat.le_trans (choicesS_len h) hm,?_⟩
 unfold M.choicesS at h
 split at h
 ·cases h
 ·rename_i r hr
  split at h
  ·cases h
   intro c hc
   obtain⟨x,hx,e⟩:=(allS_mem hr).2 c hc
   exact choiceS_short e (Nat.le_trans (M.cutS_mem _ _ x hx) hs)
  ·cases h
theorem fileS_short{s:List UInt8}{f:M.Fl}(h:M.fileS s=some f)(hs:s.length<=8000):f.path.length<=8000/\f.content.length<=8000:=by
 unfold M.fileS at h
 split at h
 ·cases h
 ·split at h
  ·cases h
   constructor
   ·simp only[List.length_take];omega
   ·simp only[List.length_drop];omega
  ·cases h
theorem titleS_short{s:List UInt8}{a b:List UInt8}(h:M.titleS s=some (a,b))(hs:s.length<=8000):a.length<=8000/\b.length<=8000:=by
 have hm:=M.cutS_mem s [32]
 unfold M.titleS at h
 split at h
 ·rename_i x y z e
  rw[e] at hm
  have h1:=hm y (by simp)
  have h2:=hm z (by simp)
  split at h
  ·cases h;exact⟨by omega,by omega⟩
  ·cases h
 ·cases h
theorem lineS_short{p q:M.Pk}{k:Nat}{s:List UInt8}(hp:ShortP p)(hs:s.length<=8000)(h:M.lineS p k s=some q):ShortP q:=by
 unfold M.lineS at h
 split at h
 ·split at h
  ·cases h
  ·rename_i a b e
   cases h
   have:=titleS_short e hs
   exact⟨this.1,this.2,hp.needn,hp.needs,hp.bars,hp.filen,hp.files⟩
 ·split at h
  ·split at h
   ·cases h
   ·rename_i l hl
    split at h
    ·cases h
     refine⟨hp.name,hp.ver,by show l.length<=_;omega,fun g hg=>?_,hp.bars,hp.filen,hp.files⟩
     obtain⟨x,hx,e⟩:=(allS_mem hl).2 g hg
     refine choicesS_short (s:=x) (sep:=[32,124,32]) (m:=3) e (by decide) ?_
     have:=M.cutS_mem _ _ x hx
     simp only[List.length_drop] at this
     omega
    ·cases h
  ·split at h
   ·split at h
    ·cases h
    ·rename_i l hl
     cases h
     exact⟨hp.name,hp.ver,hp.needn,hp.needs,choicesS_short hl (by decide) (by simp only[List.length_drop];omega),hp.filen,hp.files⟩
   ·split at h
    ·rename_i hc
     split at h
     ·cases h
     ·rename_i f hf
      split at h
      ·cases h
       refine⟨hp.name,hp.ver,hp.needn,hp.needs,hp.bars,by simp;omega,fun g hg=>?_⟩
       rcases List.mem_append.mp hg with hg|hg
       ·exact hp.files g hg
       ·simp at hg
        subst hg
        exact fileS_short hf (by simp only[List.length_drop];omega)
      ·cases h
    ·cases h
theorem linesS_short:∀ {l:List (List UInt8)} {k:Nat} {p q:M.Pk},ShortP p->(∀ x∈l,x.length<=8000)->M.linesS l k p=.inr q->ShortP q
 | [],k,p,q,hp,_,h=>by simp only[M.linesS,Sum.inr.injEq] at h;subst h;exact hp
 | s :: l,k,p,q,hp,hl,h=>by
  simp only[M.linesS] at h
  split at h
  ·cases h
  ·rename_i p' e
   exact linesS_short (lineS_short hp (hl s (by simp)) e) (fun x hx=>hl x (by simp[hx])) h
theorem swapAt_mem{α:Type}{l:List α}{k:Nat}{x:α}(h:x∈M.swapAt l k):x∈l:=by
 unfold M.swapAt at h
 split at h
 ·rename_i a b ha hb
  have ia:a∈l:=List.mem_of_getElem? ha
  have ib:b∈l:=List.mem_of_getElem? hb
  rcases List.mem_or_eq_of_mem_set h with h|rfl
  ·rcases List.mem_or_eq_of_mem_set h with h|rfl
   ·exact h
   ·exact ia
  ·exact ib
 ·exact h
theorem bub_mem:∀ {k:Nat} {l:List M.Fl} {x:M.Fl},x∈M.bub k l->x∈l
 | 0,l,x,h=>h
 | k+1,l,x,h=>by
  unfold M.bub at h
  split at h
  ·split at h
   ·exact swapAt_mem (bub_mem h)
   ·exact h
  ·exact h
theorem srt_mem:∀ {m i:Nat} {l:List M.Fl} {x:M.Fl},x∈M.srt m i l->x∈l
 | 0,_,l,x,h=>h
 | m+1,i,l,x,h=>by
  unfold M.srt at h
  split at h
  ·exact bub_mem (srt_mem h)
  ·exact h
theorem srt_len:∀ (m i:Nat) (l:List M.Fl),(M.srt m i l).length=l.length
 | 0,_,l=>rfl
 | m+1,i,l=>by
  unfold M.srt
  split
  ·rw[srt_len m,M.bub_len]
  ·rfl
theorem emptyShort:ShortP M.emptyPk:=⟨by simp[M.emptyPk],by simp[M.emptyPk],by simp[M.emptyPk],by simp[M.emptyPk],⟨by simp[M.emptyPk],by simp[M.emptyPk]⟩,by simp[M.emptyPk],by simp[M.emptyPk]⟩
theorem trimS_len(s:List UInt8):(M.trimS s).length<=s.length:=by
 unfold M.trimS
 split
 ·simp
 ·exact Nat.le_refl _
theorem readS_short{s:List UInt8}{p:M.Pk}(h:M.readS s=.inr p):ShortP p:=by
 unfold M.readS at h
 split at h
 ·cases h
 ·rename_i h3
  split at h
  ·cases h
  ·rename_i q e
   cases h
   have hq:=linesS_short emptyShort (fun x hx=>by have:=M.cutS_mem _ _ x hx;have:=trimS_len s;omega) e
   exact⟨hq.name,hq.ver,hq.needn,hq.needs,hq.bars,by show (M.sortF q.files).length<=_;unfold M.sortF;rw[srt_len];exact hq.filen,fun f hf=>hq.files f (srt_mem hf)⟩
end Go.Proofs.YtgnfknjopafngabGreatDoor
