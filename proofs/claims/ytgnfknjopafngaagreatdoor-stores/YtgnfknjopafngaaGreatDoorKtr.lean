import Derived.Test.YtgnfknjopafngaaGreatDoorKtq
set_option maxRecDepth 100000
set_option maxHeartbeats 2000000
namespace Go.Proofs.YtgnfknjopafngaaGreatDoor
namespace M
theorem join_cons{sep x:List UInt8}{l:List (List UInt8)}(h:l≠[]):Zal sep (x :: l)=x++sep++Zal sep l:=by
 cases l with
 | nil=>exact absurd rfl h
 | cons y r=>rfl
theorem Zpv{sep:List UInt8}:∀ (n:Nat) (cur rest:List UInt8),Zal sep (Zjz sep n cur rest)=cur++rest
 | 0,cur,rest=>rfl
 | n+1,cur,rest=>by
  simp only[Zjz]
  split
  ·rfl
  ·split
   ·rename_i h
    rw[join_cons (by intro e;have:=(Zng (sep:=sep) n [] (rest.drop sep.length)).1;rw[e] at this;simp at this),Zpv n]
    conv=>rhs;rw[<-List.take_append_drop sep.length rest,h]
    simp
   ·rw[Zpv n,List.append_assoc,List.take_append_drop]
theorem Zjk(s sep:List UInt8):Zal sep (Zcn s sep)=s:=Zpv _ _ _
theorem Ycv{c:UInt8}:∀ (n:Nat) (s:List UInt8),s.length<=n->∀ x∈Zcn s [c],c ∉ x:=by
 intro n
 induction n with
 | zero=>
  intro s hs x hx
  have:s=[]:=List.length_eq_zero_iff.mp (by omega)
  subst this
  rw[(Znf (s:=[]) (c:=c) (by simp)).2] at hx
  simp at hx
  subst hx
  simp
 | succ n ih=>
  intro s hs x hx
  rcases Zd0 s c with ⟨h,_,e⟩|⟨a,b,rfl,h,_,e⟩
  ·rw[e] at hx
   simp at hx
   subst hx
   exact h
  ·rw[e] at hx
   rcases List.mem_cons.1 hx with rfl|hx
   ·exact h
   ·exact ih b (by simp at hs;omega) x hx
theorem Zzd{c:UInt8}:∀ (l:List (List UInt8)),l≠[]->(∀ s∈l,c ∉ s)->Zcn (Zal [c] l) [c]=l
 | [],h,_=>absurd rfl h
 | [x],_,h=>(Znf (h x (by simp))).2
 | x :: y :: r,_,h=>by
  have e:Zal [c] (x :: y :: r)=x++c :: Zal [c] (y :: r):=by simp[Zal]
  rw[e,(Zgj (h x (by simp))).2,Zzd (y :: r) (by simp) (fun s hs=>h s (by simp[hs]))]
theorem Zuc{c:UInt8}:∀ (l:List (List UInt8)),l≠[]->(∀ s∈l,s≠[]/\c ∉ s)->Zal [c] l≠[]/\(Zal [c] l).getLast?≠some c
 | [],h,_=>absurd rfl h
 | [x],_,h=>by
  refine⟨(h x (by simp)).1,fun e=>(h x (by simp)).2 ?_⟩
  exact List.mem_of_getLast? e
 | x :: y :: r,_,h=>by
  obtain⟨h1,h2⟩:=Zuc (c:=c) (y :: r) (by simp) (fun s hs=>h s (by simp[hs]))
  have e:Zal [c] (x :: y :: r)=x++[c]++Zal [c] (y :: r):=rfl
  rw[e]
  refine⟨by simp,?_⟩
  rw[List.getLast?_append]
  cases hj:(Zal [c] (y :: r)).getLast? with
  | none=>exact absurd (List.getLast?_eq_none_iff.1 hj) h1
  | some z=>rw[hj] at h2;exact h2
theorem Z6m{p:List UInt8}(h:Zer p=true):p=40 :: p.drop 1/\p.drop 1≠[]:=by
 unfold Zer at h
 simp only[Bool.or_eq_true,beq_iff_eq] at h
 rcases h with (((rfl|rfl)|rfl)|rfl)|rfl <;> decide
theorem Zyp{s:List UInt8}{c:Ch}(h:Zc4 s=some c):Zd5 c=s:=by
 have hj:=Zjk s [32]
 unfold Zc4 at h
 split at h
 ·split at h
  ·cases h
   simp[Zd5]
  ·cases h
 ·rename_i p0 p1 p2 e
  split at h
  ·rename_i hc
   obtain⟨_,h0,_,hs,h41⟩:=hc
   cases h
   obtain⟨e1,e2⟩:=Z6m hs
   rw[e] at hj
   have e3:p2=p2.take (p2.length-1)++[41]:=by
    conv=>lhs;rw[<-List.take_append_drop (p2.length-1) p2]
    rw[eq_of_beq h41]
   unfold Zd5
   rw[if_neg e2,<-hj]
   simp only[Zal]
   conv=>rhs;rw[e1,e3]
   simp
  ·cases h
 ·cases h
theorem Zs3{α:Type}{f:List UInt8->Option α}{t:α->List UInt8}(hf:∀ s c,f s=some c->t c=s):∀ {l:List (List UInt8)} {r:List α},Zfg f l=some r->r.map t=l
 | [],r,h=>by simp only[Zfg,Option.some.injEq] at h;subst h;rfl
 | s :: l,r,h=>by
  simp only[Zfg] at h
  split at h
  ·cases h
  ·rename_i c hc
   split at h
   ·cases h
   ·rename_i r' hr
    cases h
    rw[List.map_cons,hf s c hc,Zs3 hf hr]
theorem Zin{s sep:List UInt8}{m:Nat}{l:List Ch}(h:Zbz s sep m=some l):Zab sep l=s/\l≠[]:=by
 unfold Zbz at h
 split at h
 ·cases h
 ·rename_i r hr
  split at h
  ·cases h
   have e:=Zs3 (t:=Zd5) (fun s c=>Zyp) hr
   refine⟨by unfold Zab;rw[e,Zjk],?_⟩
   rintro rfl
   have:=(Zbx s sep).1
   rw[<-e] at this
   simp at this
  ·cases h
theorem Zoh{s:List UInt8}{l:List (List Ch)}(h:Zfg Zf2 (Zcn s [44,32])=some l):Zal [44,32] (l.map (Zab [32,124,32]))=s/\l≠[]:=by
 have e:=Zs3 (t:=Zab [32,124,32]) (fun s c hc=>(Zin hc).1) h
 refine⟨by rw[e,Zjk],?_⟩
 rintro rfl
 have:=(Zbx s [44,32]).1
 rw[<-e] at this
 simp at this
theorem Zqt:∀ (s:List UInt8),lead (fun c=>decide (c≠61)) s≠s.length->s=s.take (lead (fun c=>decide (c≠61)) s)++61 :: s.drop (lead (fun c=>decide (c≠61)) s+1)
 | [],h=>absurd rfl h
 | b :: s,h=>by
  by_cases hb:decide ((b.toNat:Int)≠61)=true
  ·have e:lead (fun c=>decide (c≠61)) (b :: s)=lead (fun c=>decide (c≠61)) s+1:=by unfold lead;rw[List.takeWhile_cons_of_pos (p:=fun b:UInt8=>(fun c:Int=>decide (c≠61)) b.toNat) hb];rfl
   rw[e] at h ⊢
   have:=Zqt s (by simpa using h)
   rw[List.take_succ_cons,List.drop_succ_cons,List.cons_append,<-this]
  ·have e:lead (fun c=>decide (c≠61)) (b :: s)=0:=by unfold lead;rw[List.takeWhile_cons_of_neg (p:=fun b:UInt8=>(fun c:Int=>decide (c≠61)) b.toNat) hb];rfl
   rw[e]
   have:b=61:=by
    have h1:(b.toNat:Int)=61:=by simpa using hb
    exact UInt8.toNat_inj.1 (by simpa using (by omega:b.toNat=61))
   subst this
   rfl
theorem Z3g{s:List UInt8}{f:Fl}(h:Zjs s=some f):f.path++[61]++f.content=s:=by
 unfold Zjs at h
 split at h
 ·cases h
 ·rename_i hl
  split at h
  ·cases h
   have:=Zqt s hl
   dsimp only
   rw[List.append_assoc]
   exact this.symm
  ·cases h
theorem Zr4{s a b:List UInt8}(h:Zew s=some (a,b)):s=[112,97,99,107,97,103,101,32]++a++[32]++b:=by
 have hj:=Zjk s [32]
 unfold Zew at h
 split at h
 ·rename_i x y z e
  split at h
  ·rename_i hc
   cases h
   rw[e] at hj
   rw[<-hj,eq_of_beq hc.1]
   simp[Zal]
  ·cases h
 ·cases h
theorem Zki{s t:List UInt8}(h:begins s t=true):s=t++s.drop t.length:=by
 unfold begins at h
 simp only[Bool.and_eq_true,decide_eq_true_eq,beq_iff_eq] at h
 conv=>lhs;rw[<-List.take_append_drop t.length s,h.2]
end M
namespace M
def Z3f(x:Fl):List Fl->List Fl
 | []=>[x]
 | y :: r=>if Op.bytesLess x.path y.path=true then y :: Z3f x r else x :: y :: r
theorem Z59{α:Type}:∀ (a:List α) (y x:α) (b:List α),swapAt (a++y :: x :: b) a.length=a++x :: y :: b
 | [],y,x,b=>by simp[swapAt]
 | z :: a,y,x,b=>by
  have:=Z59 a y x b
  have e:swapAt (z :: (a++y :: x :: b)) (a.length+1)=z :: swapAt (a++y :: x :: b) a.length:=by
   unfold swapAt
   simp only[List.getElem?_cons_succ]
   split <;> simp_all
  rw[List.cons_append,List.length_cons,e,this,List.cons_append]
theorem Z34:∀ (r:List Fl) (x:Fl) (b:List Fl),bub r.length (r.reverse++x :: b)=(Z3f x r).reverse++b
 | [],x,b=>rfl
 | y :: r,x,b=>by
  have e:(y :: r).reverse++x :: b=r.reverse++y :: x :: b:=by simp
  have h1:(r.reverse++y :: x :: b)[r.length]? = some y:=by
   rw[List.getElem?_append_right (by simp)];simp
  have h2:(r.reverse++y :: x :: b)[r.length+1]? = some x:=by
   rw[List.getElem?_append_right (by simp)];simp
  rw[e,List.length_cons]
  unfold bub
  rw[h1,h2]
  dsimp only
  unfold Z3f
  by_cases hl:Op.bytesLess x.path y.path=true
  ·rw[if_pos hl,if_pos hl]
   have:=Z59 r.reverse y x b
   rw[List.length_reverse] at this
   rw[this,Z34 r x (y :: b)]
   simp
  ·rw[if_neg hl,if_neg hl]
   simp
def Zoi(l:List Fl):Prop:=l.Pairwise fun f g=>Op.bytesLess g.path f.path=false
def Z1t(l:List Fl):Prop:=l.Pairwise fun f g=>Op.bytesLess f.path g.path=false
theorem Zy0{x z:Fl}:∀ {r:List Fl},z∈Z3f x r->z=x\/z∈r
 | [],h=>by simp[Z3f] at h;exact .inl h
 | y :: r,h=>by
  unfold Z3f at h
  split at h
  ·rcases List.mem_cons.1 h with rfl|h
   ·exact .inr (by simp)
   ·rcases Zy0 h with e|h
    ·exact .inl e
    ·exact .inr (by simp[h])
  ·rcases List.mem_cons.1 h with rfl|h
   ·exact .inl rfl
   ·exact .inr h
theorem Zur{x:Fl}:∀ {r:List Fl},Z1t r->Z1t (Z3f x r)
 | [],_=>by simp[Z3f,Z1t]
 | y :: r,h=>by
  obtain⟨h1,h2⟩:=List.pairwise_cons.1 h
  unfold Z3f
  split
  ·rename_i hl
   refine List.pairwise_cons.2 ⟨fun z hz=>?_,Zur h2⟩
   rcases Zy0 hz with rfl|hz
   ·exact Zet hl
   ·exact h1 z hz
  ·rename_i hl
   have hl':Op.bytesLess x.path y.path=false:=by simpa using hl
   refine List.pairwise_cons.2 ⟨fun z hz=>?_,h⟩
   rcases List.mem_cons.1 hz with rfl|hz
   ·exact hl'
   ·exact Ycl (h1 z hz) hl'
theorem Z0b:∀ (b:List Fl) (m:Nat) (r:List Fl),b.length<=m->Z1t r->∃ r',Z1t r'/\srt m r.length (r.reverse++b)=r'.reverse
 | [],m,r,_,h=>⟨r,h,by
  rw[List.append_nil]
  cases m with
  | zero=>rfl
  | succ m=>unfold srt;rw[if_neg (by simp)]⟩
 | x :: b,m,r,hm,h=>by
  obtain⟨m,rfl⟩:∃ k,m=k+1:=⟨m-1,by simp at hm;omega⟩
  have hlen:∀ (q:List Fl),(Z3f x q).length=q.length+1:=by
   intro q
   induction q with
   | nil=>rfl
   | cons y q ih=>unfold Z3f;split <;> simp[ih]
  unfold srt
  rw[if_pos (by simp),Z34,<-hlen r]
  exact Z0b b m (Z3f x r) (by simp at hm;omega) (Zur h)
theorem Zvv(l:List Fl):Zoi (Zcs l):=by
 unfold Zcs
 cases l with
 | nil=>exact List.Pairwise.nil
 | cons x l=>
  obtain⟨r',h1,h2⟩:=Z0b l (l.length+1) [x] (by omega) (by simp[Z1t])
  have e:srt (x :: l).length 1 (x :: l)=r'.reverse:=h2
  rw[e]
  unfold Zoi
  rw[List.pairwise_reverse]
  exact h1
theorem Yc8{l:List Fl}(h:Zoi l):∀ k,bub k l=l
 | 0=>rfl
 | k+1=>by
  unfold bub
  split
  ·rename_i x y hx hy
   obtain⟨h1,rfl⟩:=List.getElem?_eq_some_iff.1 hx
   obtain⟨h2,rfl⟩:=List.getElem?_eq_some_iff.1 hy
   have:=List.pairwise_iff_getElem.1 h k (k+1) h1 h2 (by omega)
   rw[if_neg (by rw[this];simp)]
  ·rfl
theorem Z9u{l:List Fl}(h:Zoi l):∀ m i,srt m i l=l
 | 0,_=>rfl
 | m+1,i=>by
  unfold srt
  split
  ·rw[Yc8 h i,Z9u h m]
  ·rfl
theorem Z7n{l:List Fl}(h:Zoi l):Zcs l=l:=Z9u h _ _
def Zn6(p:Pk):List UInt8:=[112,97,99,107,97,103,101,32]++p.name++[32]++p.ver
def Zhg(p:Pk):List (List UInt8):=if p.needs=[] then [] else [Zbi++Zal [44,32] (p.needs.map (Zab [32,124,32]))]
def Zky(p:Pk):List (List UInt8):=if p.bars=[] then [] else [Zcr++Zab [44,32] p.bars]
def Zoe(f:Fl):List UInt8:=Zfw++(f.path++[61]++f.content)
def Ziq(p:Pk):List (List UInt8):=Zn6 p :: (Zhg p++(Zky p++p.files.map Zoe))
theorem Zop(x:List UInt8):∀ (l:List (List UInt8)),Zal [10] (x :: l)=x++l.flatMap (fun s=>10 :: s)
 | []=>by simp[Zal]
 | y :: l=>by rw[join_cons (by simp),Zop y l];simp
theorem Zn5(p:Pk):Zaz p=Zal [10] (Ziq p):=by
 unfold Ziq
 rw[Zop]
 unfold Zaz Zn6 Zhg Zky Zbq Zct
 have e3:p.files.flatMap Zcq=(p.files.map Zoe).flatMap (fun s=>10 :: s):=by
  rw[List.flatMap_map]
  rfl
 rw[e3]
 by_cases h1:p.needs=[]
 ·by_cases h2:p.bars=[]
  ·simp[h1,h2]
  ·simp[h1,h2,Zcr]
 ·by_cases h2:p.bars=[]
  ·simp[h1,h2,Zbi]
  ·simp[h1,h2,Zbi,Zcr]
structure Zu1 (p:Pk):Prop where
 needs:p.needs=[]\/(Zfg Zf2 (Zcn (Zal [44,32] (p.needs.map (Zab [32,124,32]))) [44,32])=some p.needs/\p.needs.length<=3)
 bars:p.bars=[]\/Zbz (Zab [44,32] p.bars) [44,32] 3=some p.bars
 files:∀ f∈p.files,Zjs (f.path++[61]++f.content)=some f
 few:p.files.length<=4
 apart:p.files.Pairwise fun f g=>apart f g=true
theorem Zl1(s t:List UInt8):begins (s++t) s=true:=by unfold begins;simp
theorem Zn7{a b:UInt8}{s t:List UInt8}(h:a≠b):begins (a :: s) (b :: t)=false:=by
 unfold begins
 simp[h]
theorem Z0y{p q:Pk}{k:Nat}{s:List UInt8}(hk:0<k)(hp:Zu1 p)(h:Zbw p k s=some q):Zu1 q/\Zaz q=Zaz p++10 :: s:=by
 unfold Zbw at h
 rw[if_neg (by omega)] at h
 split at h
 ·rename_i hb
  obtain⟨hb,h0⟩:=hb
  have n0:p.needs=[]:=List.length_eq_zero_iff.mp (by omega)
  have b0:p.bars=[]:=List.length_eq_zero_iff.mp (by omega)
  have f0:p.files=[]:=List.length_eq_zero_iff.mp (by omega)
  split at h
  ·cases h
  ·rename_i l hl
   split at h
   ·rename_i h3
    cases h
    obtain⟨e1,e2⟩:=Zoh hl
    refine⟨⟨.inr ⟨by dsimp only;rw[e1];exact hl,h3⟩,hp.bars,hp.files,hp.few,hp.apart⟩,?_⟩
    have es:=Zki hb
    unfold Zaz Zbq
    dsimp only
    rw[if_neg e2,e1,n0,b0,f0,if_pos rfl]
    conv=>rhs;rw[es]
    simp[Zct,Zbi]
   ·cases h
 ·split at h
  ·rename_i hb
   obtain⟨hb,h0⟩:=hb
   have b0:p.bars=[]:=List.length_eq_zero_iff.mp (by omega)
   have f0:p.files=[]:=List.length_eq_zero_iff.mp (by omega)
   split at h
   ·cases h
   ·rename_i l hl
    cases h
    obtain⟨e1,e2⟩:=Zin hl
    refine⟨⟨hp.needs,.inr (by dsimp only;rw[e1];exact hl),hp.files,hp.few,hp.apart⟩,?_⟩
    have es:=Zki hb
    unfold Zaz Zct
    dsimp only
    rw[if_neg e2,e1,b0,f0,if_pos rfl]
    conv=>rhs;rw[es]
    simp[Zcr]
  ·split at h
   ·rename_i hb
    obtain⟨hb,h4⟩:=hb
    split at h
    ·cases h
    ·rename_i f hf
     split at h
     ·rename_i ha
      cases h
      have e1:=Z3g hf
      refine⟨⟨hp.needs,hp.bars,fun g hg=>?_,by simp;omega,?_⟩,?_⟩
      ·rcases List.mem_append.mp hg with hg|hg
       ·exact hp.files g hg
       ·simp at hg
        subst hg
        rw[e1]
        exact hf
      ·show (p.files++[f]).Pairwise _
       refine List.pairwise_append.2 ⟨hp.apart,by simp,fun g hg x hx=>?_⟩
       simp at hx
       subst hx
       exact Zhf (List.all_eq_true.1 ha g hg)
      ·have es:=Zki hb
       unfold Zaz
       dsimp only
       rw[List.flatMap_append]
       conv=>rhs;rw[es]
       simp only[List.flatMap_cons,List.flatMap_nil,Zcq]
       have:List.drop Zfw.length s=f.path++[61]++f.content:=e1.symm
       rw[this]
       simp[Zfw]
     ·cases h
   ·cases h
theorem Zo3:∀ {l:List (List UInt8)} {k:Nat} {p q:Pk},0<k->Zu1 p->Zba l k p=.inr q->Zu1 q/\Zaz q=Zaz p++l.flatMap (fun s=>10 :: s)
 | [],k,p,q,_,hp,h=>by simp only[Zba,Sum.inr.injEq] at h;subst h;exact⟨hp,by simp⟩
 | s :: l,k,p,q,hk,hp,h=>by
  simp only[Zba] at h
  split at h
  ·cases h
  ·rename_i p' e
   obtain⟨h1,h2⟩:=Z0y hk hp e
   obtain⟨h3,h4⟩:=Zo3 (Nat.succ_pos k) h1 h
   exact⟨h3,by rw[h4,h2];simp⟩
theorem Zj1{l:List (List UInt8)}{q:Pk}(hl:l≠[])(h:Zba l 0 Zat=.inr q):Zu1 q/\Zaz q=Zal [10] l/\Zew (Zn6 q)=some (q.name,q.ver):=by
 cases l with
 | nil=>exact absurd rfl hl
 | cons x r=>
  simp only[Zba] at h
  split at h
  ·cases h
  ·rename_i p' hp
   unfold Zbw at hp
   rw[if_pos rfl] at hp
   split at hp
   ·cases hp
   ·rename_i a b ht
    cases hp
    have hv:Zu1 { Zat with name:=a,ver:=b }:=⟨.inl rfl,.inl rfl,by simp[Zat],by simp[Zat],by simp[Zat]⟩
    obtain⟨h1,h2⟩:=Zo3 (by omega) hv h
    have e:Zaz { Zat with name:=a,ver:=b }=x:=by
     rw[Zr4 ht]
     simp[Zaz,Zat,Zbq,Zct]
    refine⟨h1,by rw[h2,e,Zop],?_⟩
    have e1:q.name=a:=(Zma (by omega) h)
    have e2:q.ver=b:=by
     have gen:∀ {l:List (List UInt8)} {k:Nat} {p q:Pk},0<k->Zba l k p=.inr q->q.ver=p.ver:=by
      intro l
      induction l with
      | nil=>intro k p q _ h;simp only[Zba,Sum.inr.injEq] at h;subst h;rfl
      | cons s l ih=>
       intro k p q hk h
       simp only[Zba] at h
       split at h
       ·cases h
       ·rename_i p' e
        rw[ih (Nat.succ_pos k) h]
        unfold Zbw at e
        rw[if_neg (by omega)] at e
        split at e
        ·split at e
         ·cases e
         ·split at e
          ·cases e;rfl
          ·cases e
        ·split at e
         ·split at e
          ·cases e
          ·cases e;rfl
         ·split at e
          ·split at e
           ·cases e
           ·split at e
            ·cases e;rfl
            ·cases e
          ·cases e
     exact gen (by omega) h
    unfold Zn6
    rw[e1,e2,<-Zr4 ht]
    exact ht
end M
namespace M
theorem Zrk(a b:List UInt8)(n:List (List Ch))(c:List Ch):∀ (fs acc:List Fl) (k:Nat),0<k->(∀ f∈fs,Zjs (f.path++[61]++f.content)=some f)->acc.length+fs.length<=4->(acc++fs).Pairwise (fun f g=>apart f g=true)->
 Zba (fs.map Zoe) k ⟨a,b,n,c,acc⟩=.inr ⟨a,b,n,c,acc++fs⟩
 | [],acc,k,_,_,_,_=>by simp[Zba]
 | f :: fs,acc,k,hk,hf,h4,hp=>by
  have e:Zbw ⟨a,b,n,c,acc⟩ k (Zoe f)=some ⟨a,b,n,c,acc++[f]⟩:=by
   unfold Zbw
   rw[if_neg (by omega),if_neg (by rintro ⟨h,_⟩;have:begins (Zoe f) Zbi=false:=Zn7 (by decide);rw[this] at h;cases h),if_neg (by rintro ⟨h,_⟩;have:begins (Zoe f) Zcr=false:=Zn7 (by decide);rw[this] at h;cases h),
    if_pos ⟨Zl1 Zfw _,by simp at h4 ⊢;omega⟩]
   have e1:(Zoe f).drop 5=f.path++[61]++f.content:=rfl
   rw[e1,hf f (by simp)]
   dsimp only
   rw[if_pos]
   rw[List.all_eq_true]
   intro g hg
   exact Zhf ((List.pairwise_append.1 hp).2.2 g hg f (by simp))
  rw[List.map_cons]
  simp only[Zba]
  rw[e]
  dsimp only
  rw[Zrk a b n c fs (acc++[f]) (k+1) (by omega) (fun g hg=>hf g (by simp[hg])) (by simp at h4 ⊢;omega) (by simpa using hp)]
  simp
theorem Z1c{p:Pk}(hv:Zu1 p)(ht:Zew (Zn6 p)=some (p.name,p.ver)):Zba (Ziq p) 0 Zat=.inr p:=by
 obtain⟨nm,vr,n,c,fs⟩:=p
 have e0:Zbw Zat 0 (Zn6 ⟨nm,vr,n,c,fs⟩)=some ⟨nm,vr,[],[],[]⟩:=by
  unfold Zbw
  rw[if_pos rfl,ht]
  rfl
 have hfs:∀ k,0<k->Zba (fs.map Zoe) k ⟨nm,vr,n,c,[]⟩=.inr ⟨nm,vr,n,c,fs⟩:=fun k hk=>by
  have:=Zrk nm vr n c fs [] k hk hv.files (by simpa using hv.few) (by simpa using hv.apart)
  simpa using this
 have hbs:∀ k,0<k->Zba (Zky ⟨nm,vr,n,c,fs⟩++fs.map Zoe) k ⟨nm,vr,n,[],[]⟩=.inr ⟨nm,vr,n,c,fs⟩:=fun k hk=>by
  unfold Zky
  by_cases h:c=[]
  ·subst h
   rw[if_pos rfl]
   exact hfs k hk
  ·rw[if_neg h]
   have hb:Zbz (Zab [44,32] c) [44,32] 3=some c:=hv.bars.resolve_left h
   have e:Zbw ⟨nm,vr,n,[],[]⟩ k (Zcr++Zab [44,32] c)=some ⟨nm,vr,n,c,[]⟩:=by
    unfold Zbw
    rw[if_neg (by omega),if_neg (by rintro ⟨h,_⟩;have:begins (Zcr++Zab [44,32] c) Zbi=false:=Zn7 (by decide);rw[this] at h;cases h),if_pos ⟨Zl1 Zcr _,rfl⟩]
    have e1:(Zcr++Zab [44,32] c).drop 5=Zab [44,32] c:=rfl
    rw[e1,hb]
   simp only[List.cons_append,List.nil_append,Zba]
   rw[e]
   exact hfs (k+1) (by omega)
 have hns:∀ k,0<k->Zba (Zhg ⟨nm,vr,n,c,fs⟩++(Zky ⟨nm,vr,n,c,fs⟩++fs.map Zoe)) k ⟨nm,vr,[],[],[]⟩=.inr ⟨nm,vr,n,c,fs⟩:=fun k hk=>by
  unfold Zhg
  by_cases h:n=[]
  ·subst h
   rw[if_pos rfl]
   exact hbs k hk
  ·rw[if_neg h]
   obtain⟨hb,h3⟩:=hv.needs.resolve_left h
   dsimp only at hb h3
   have e:Zbw ⟨nm,vr,[],[],[]⟩ k (Zbi++Zal [44,32] (n.map (Zab [32,124,32])))=some ⟨nm,vr,n,[],[]⟩:=by
    unfold Zbw
    rw[if_neg (by omega),if_pos ⟨Zl1 Zbi _,rfl⟩]
    have e1:(Zbi++Zal [44,32] (n.map (Zab [32,124,32]))).drop 6=Zal [44,32] (n.map (Zab [32,124,32])):=rfl
    rw[e1,hb]
    dsimp only
    rw[if_pos h3]
   simp only[List.cons_append,List.nil_append,Zba]
   rw[e]
   exact hbs (k+1) (by omega)
 unfold Ziq
 simp only[Zba]
 rw[e0]
 exact hns 1 (by omega)
theorem Zms{l k:List Fl}(h:l.Perm k):(l.flatMap Zcq).length=(k.flatMap Zcq).length:=by
 rw[List.length_flatMap,List.length_flatMap]
 exact(h.map _).sum_nat
theorem Zjo{s:List UInt8}{p:Pk}(h:Zcp s=.inr p):(Zaz p).length<=s.length/\Zcp (Zaz p)=.inr p/\Zaz p≠[]:=by
 unfold Zcp at h
 split at h
 ·cases h
 ·rename_i h3
  split at h
  ·cases h
  ·rename_i q e
   cases h
   have hne:Zcn (trimS s) [10]≠[]:=fun e=>by have:=(Zbx (trimS s) [10]).1;rw[e] at this;simp at this
   obtain⟨hv,hpr,ht⟩:=Zj1 hne e
   rw[Zjk] at hpr
   have hperm:=Zjg q.files
   have hlen:(Zaz { q with files:=Zcs q.files }).length=(Zaz q).length:=by
    unfold Zaz
    simp only[List.length_append]
    rw[Zms hperm]
   have hlen2:(Zaz { q with files:=Zcs q.files }).length<=s.length:=by
    rw[hlen,hpr]
    unfold trimS
    split
    ·simp
    ·exact Nat.le_refl _
   have hv2:Zu1 { q with files:=Zcs q.files }:=⟨hv.needs,hv.bars,fun f hf=>hv.files f (hperm.mem_iff.1 hf),by show (Zcs q.files).length<=4;rw[hperm.length_eq];exact hv.few,(hperm.pairwise_iff (fun {a b} hab=>Zhf hab)).2 hv.apart⟩
   have hno:∀ x∈Ziq { q with files:=Zcs q.files },x≠[]/\(10:UInt8) ∉ x:=by
    intro x hx
    constructor
    ·unfold Ziq at hx
     rcases List.mem_cons.1 hx with rfl|hx
     ·simp[Zn6]
     ·rcases List.mem_append.1 hx with hx|hx
      ·unfold Zhg at hx
       split at hx
       ·cases hx
       ·simp at hx;subst hx;simp[Zbi]
      ·rcases List.mem_append.1 hx with hx|hx
       ·unfold Zky at hx
        split at hx
        ·cases hx
        ·simp at hx;subst hx;simp[Zcr]
       ·obtain⟨f,_,rfl⟩:=List.mem_map.1 hx
        simp[Zoe,Zfw]
    ·have hx2:x∈Ziq q:=by
      unfold Ziq at hx ⊢
      rcases List.mem_cons.1 hx with rfl|hx
      ·exact List.mem_cons_self
      ·refine List.mem_cons_of_mem _ ?_
       rcases List.mem_append.1 hx with hx|hx
       ·exact List.mem_append.2 (.inl hx)
       ·refine List.mem_append.2 (.inr ?_)
        rcases List.mem_append.1 hx with hx|hx
        ·exact List.mem_append.2 (.inl hx)
        ·obtain⟨f,hf,rfl⟩:=List.mem_map.1 hx
         exact List.mem_append.2 (.inr (List.mem_map.2 ⟨f,hperm.mem_iff.1 hf,rfl⟩))
     have hjoin:Zal [10] (Ziq q)=trimS s:=by rw[<-Zn5,hpr]
     have key:∀ (l:List (List UInt8)) (y:List UInt8),y∈l->(10:UInt8)∈y->l≠[]->l.length<(Zcn (Zal [10] l) [10]).length:=by
      intro l
      induction l with
      | nil=>intro y hy;cases hy
      | cons z r ih=>
       intro y hy h10 _
       have hz:∀ (z t:List UInt8),1<=(Zcn z [10]).length/\((10:UInt8)∈z->2<=(Zcn z [10]).length)/\(Zcn (z++10 :: t) [10]).length=(Zcn z [10]).length+(Zcn t [10]).length:=by
        intro z
        have gen:∀ (n:Nat) (z:List UInt8),z.length<=n->∀ t:List UInt8,1<=(Zcn z [10]).length/\((10:UInt8)∈z->2<=(Zcn z [10]).length)/\(Zcn (z++10 :: t) [10]).length=(Zcn z [10]).length+(Zcn t [10]).length:=by
         intro n
         induction n with
         | zero=>
          intro z hz t
          have:z=[]:=List.length_eq_zero_iff.mp (by omega)
          subst this
          rw[(Znf (s:=[]) (c:=10) (by simp)).2,(Zgj (a:=[]) (b:=t) (c:=10) (by simp)).2]
          simp
          omega
         | succ n ih=>
          intro z hz t
          rcases Zd0 z 10 with ⟨h,_,e⟩|⟨a,b,rfl,h,_,e⟩
          ·rw[e,(Zgj h).2]
           refine⟨by simp,fun k=>absurd k h,by simp;omega⟩
          ·obtain⟨i1,i2,i3⟩:=ih b (by simp at hz;omega) t
           rw[e,List.append_assoc,List.cons_append,(Zgj h).2]
           refine⟨by simp,fun _=>by simp;omega,by simp[i3];omega⟩
        exact gen z.length z ler
       cases r with
       | nil=>
        simp at hy
        subst hy
        have:=(hz y []).2.1 h10
        simp[Zal]
        omega
       | cons z2 r=>
        rw[join_cons (by simp)]
        have e2:z++[10]++Zal [10] (z2 :: r)=z++10 :: Zal [10] (z2 :: r):=by simp
        rw[e2,(hz z _).2.2]
        have hle:∀ (l:List (List UInt8)),l≠[]->l.length<=(Zcn (Zal [10] l) [10]).length:=by
         intro l
         induction l with
         | nil=>intro h;exact absurd rfl h
         | cons u v ihv=>
          intro _
          cases v with
          | nil=>have:=(hz u []).1;simp[Zal];omega
          | cons u2 v=>
           rw[join_cons (by simp)]
           have e3:u++[10]++Zal [10] (u2 :: v)=u++10 :: Zal [10] (u2 :: v):=by simp
           rw[e3,(hz u _).2.2]
           have:=ihv (by simp)
           have:=(hz u []).1
           simp at *
           omega
        rcases List.mem_cons.1 hy with rfl|hy
        ·have h1:=(hz y []).2.1 h10
         have h2:=hle (z2 :: r) (by simp)
         simp at h2 ⊢
         omega
        ·have h1:=ih y hy h10 (by simp)
         have h2:=(hz z []).1
         simp at h1 ⊢
         omega
     intro h10
     have h1:=key (Ziq q) x hx2 h10 (by simp[Ziq])
     rw[hjoin] at h1
     have h2:(Zcn (trimS s) [10]).length=(Ziq q).length:=by
      have cnt:∀ (l:List (List UInt8)) (k:Nat) (p q:Pk),0<k->Zba l k p=.inr q->(Zhg q).length+(Zky q).length+q.files.length=(Zhg p).length+(Zky p).length+p.files.length+l.length:=by
       intro l
       induction l with
       | nil=>intro k p q _ h;simp only[Zba,Sum.inr.injEq] at h;subst h;rfl
       | cons y l ih=>
        intro k p q hk h
        simp only[Zba] at h
        split at h
        ·cases h
        ·rename_i p' hp'
         rw[ih (k+1) p' q (by omega) h,List.length_cons]
         have:(Zhg p').length+(Zky p').length+p'.files.length=(Zhg p).length+(Zky p).length+p.files.length+1:=by
          unfold Zbw at hp'
          rw[if_neg (by omega)] at hp'
          split at hp'
          ·rename_i hb
           have n0:p.needs=[]:=List.length_eq_zero_iff.mp (by omega)
           split at hp'
           ·cases hp'
           ·rename_i l hl
            split at hp'
            ·cases hp'
             unfold Zhg Zky
             dsimp only
             rw[if_neg (Zoh hl).2,if_pos n0]
             simp
             omega
            ·cases hp'
          ·split at hp'
           ·rename_i hb
            have b0:p.bars=[]:=List.length_eq_zero_iff.mp (by omega)
            split at hp'
            ·cases hp'
            ·rename_i l hl
             cases hp'
             unfold Zhg Zky
             dsimp only
             rw[if_neg (Zin hl).2,if_pos b0]
             simp
             omega
           ·split at hp'
            ·split at hp'
             ·cases hp'
             ·split at hp'
              ·cases hp'
               unfold Zhg Zky
               simp
               omega
              ·cases hp'
            ·cases hp'
         omega
      cases hc:Zcn (trimS s) [10] with
      | nil=>exact absurd hc hne
      | cons y r=>
       rw[hc] at e
       simp only[Zba] at e
       split at e
       ·cases e
       ·rename_i p' hp'
        have hc1:=cnt r 1 p' q (by omega) e
        unfold Zbw at hp'
        rw[if_pos rfl] at hp'
        split at hp'
        ·cases hp'
        ·cases hp'
         unfold Ziq
         simp[Zhg,Zky,Zat] at hc1 ⊢
         omega
     omega
   have hcut:Zcn (Zaz { q with files:=Zcs q.files }) [10]=Ziq { q with files:=Zcs q.files }:=by
    rw[Zn5]
    exact Zzd _ (by simp[Ziq]) (fun x hx=>(hno x hx).2)
   obtain⟨hl1,hl2⟩:=Zuc (c:=10) (Ziq { q with files:=Zcs q.files }) (by simp[Ziq]) hno
   rw[<-Zn5] at hl1 hl2
   refine⟨hlen2,?_,hl1⟩
   have etrim:trimS (Zaz { q with files:=Zcs q.files })=Zaz { q with files:=Zcs q.files }:=by unfold trimS;rw[if_neg hl2]
   unfold Zcp
   rw[if_neg (by omega),etrim,hcut,Z1c hv2 (by exact ht)]
   dsimp only
   rw[Z7n (Zvv q.files)]
end M
end Go.Proofs.YtgnfknjopafngaaGreatDoor
namespace Go.Proofs.YtgnfknjopafngaaGreatDoor
open Go.RowKit
theorem Zrx{a b:ByteArray}(h:a.data.toList=b.data.toList):a=b:=by
 cases a with
 | mk x=>
  cases b with
  | mk y=>exact congrArg ByteArray.mk (Array.toList_inj.mp h)
abbrev Za8(w:World)(v:Value)(l:List ByteArray):Prop:=Zas w 0 w.heap.size v l.length (l.map Value.string)
theorem Za8.below{w w':World}{v:Value}{l:List ByteArray}(h:Za8 w v l)(hb:Below w.heap.size w w'):Za8 w' v l:=
 (h.keep (fun _ _ _ hg=>Zcb hb hg)).wide ler hb.size
theorem Zya(l:List (List UInt8)):Zaa l=(l.map fun n=>(⟨n.toArray⟩:ByteArray)).map Value.string:=by
 unfold Zaa
 rw[List.map_map]
 rfl
theorem Zwb(av bv:Value)(l:List ByteArray)(w:World)(ha:Za8 w av l)(hb:Za8 w bv l)(hn:l.length<=1000000):
 Calls Tryz.prog 67 #[av,bv] w fun e w'=>e=.returned (.bool true)/\Below w.heap.size w w':=by
 obtain⟨aa,ca,ea⟩:=ha.form
 obtain⟨ab,cb,eb⟩:=hb.form
 subst ea eb
 have HA:=hid ha
 have HB:=hid hb
 clear ha hb
 go_enter Tryz.func67,Tryz.ntmps67
 go_wp2
 go_loopw [5] (fun i wr=>∃ k:Nat,i=.int .i64 k/\k<=l.length/\Below w.heap.size w wr) (fun i _=>l.length-(intOf i).toNat)
 case atStart=>exact⟨0,rfl,Nat.zero_le _,Below.refl _ _⟩
 case round=>
  obtain⟨k,rfl,hk,hBr⟩:=hrel
  by_cases hlt:k<l.length
  ·obtain⟨ga,rfl,hga,hcapa,hca⟩:=HA.out.cellAt (by omega)
   obtain⟨gb,rfl,hgb,hcapb,hcb⟩:=HB.out.cellAt (by omega)
   have c0:wr.cell? ⟨ga,k,none⟩=some (.string l[k]):=(hBr.cell (p:=⟨ga,k,none⟩) hga).trans (hca k _ (by simp[hlt]))
   have c1:wr.cell? ⟨gb,k,none⟩=some (.string l[k]):=(hBr.cell (p:=⟨gb,k,none⟩) hgb).trans (hcb k _ (by simp[hlt]))
   generalize l[k]=T at c0 c1
   clear hca hcb
   go_wp2
   go_region
   all_goals
    go_wp2
    go_roundw
    case rel=>exact⟨k+1,by go_num,by omega,bt hBr (Zae wr 1)⟩
    case measure=>simp[intOf];omega
  ·go_wp2
   go_ret
   exact⟨rfl,hBr⟩
theorem Zfd(a b c:Int)(N:ByteArray)(w:World):
 Calls Tryz.prog 15 #[.agg #[.int .i64 a,.int .i64 b,.int .i64 c,.string N],.agg #[.int .i64 a,.int .i64 b,.int .i64 c,.string N]] w fun e w'=>e=.returned (.bool true)/\Below w.heap.size w w':=by
 go_enter Tryz.func15,Tryz.ntmps15
 go_wp2
 go_ret
 exact⟨rfl,((Below.refl _ w).alloc ler _).alloc (by simp) _⟩
def Zb5(n:Int):Nat:=if n<16 then 16 else if 256<n then 256 else n.toNat
theorem Zko(n:Int):16<=Zb5 n/\Zb5 n<=256:=by
 unfold Zb5
 split
 ·omega
 ·split <;> omega
theorem Zxq(n:Int)(w:World):Calls Tryz.prog 40 #[.int .i64 n] w fun e w'=>e=.returned (.int .i64 (Zb5 n))/\w'=w:=by
 by_cases h1:n<16
 ·have e:Zb5 n=16:=by unfold Zb5;rw[if_pos h1]
  rw[e]
  go_enter Tryz.func40,Tryz.ntmps40
  go_wp2
  go_ret
  exact⟨rfl,rfl⟩
 ·by_cases h2:256<n
  ·have e:Zb5 n=256:=by unfold Zb5;rw[if_neg h1,if_pos h2]
   rw[e]
   go_enter Tryz.func40,Tryz.ntmps40
   go_wp2
   go_ret
   exact⟨rfl,rfl⟩
  ·have e:((Zb5 n:Nat):Int)=n:=by unfold Zb5;rw[if_neg h1,if_neg h2];omega
   rw[e]
   clear e
   go_enter Tryz.func40,Tryz.ntmps40
   go_wp2
   go_ret
   exact⟨rfl,rfl⟩
def Znd(n:Nat):Int:=24*((n:Int)-8)
theorem Zy5(n:Nat)(w:World)(h:n<=256):Calls Tryz.prog 70 #[.int .i64 n] w fun e w'=>e=.returned (.int .i64 (Znd n))/\w'=w:=by
 have h1:IntKind.i64.wrap ((n:Int)-8)=(n:Int)-8:=by rw[IntKind.wrap_i64];omega
 have h2:IntKind.i64.wrap (24*((n:Int)-8))=24*((n:Int)-8):=by rw[IntKind.wrap_i64];omega
 go_enter Tryz.func70,Tryz.ntmps70
 go_wp2
 go_ret
 exact⟨rfl,rfl⟩
structure Zbb (p:M.Pk):Prop where
 short:Zgv p
 len:(M.Zaz p).length<=300
 good:M.Good p
 name:p.name≠[]
 back:M.Zcp (M.Zaz p)=.inr p
theorem Ybj{s:List UInt8}{p:M.Pk}(h:M.Zcp s=.inr p):Zbb p:=by
 have h300:s.length<=300:=by
  unfold M.Zcp at h
  split at h
  ·cases h
  ·omega
 obtain⟨h1,h2,h3⟩:=M.Zjo h
 obtain⟨h4,h5⟩:=M.Zp6 h
 exact⟨Zkf h,by omega,h4,h5,h2⟩
theorem Zbb.smallQ{p:M.Pk}(h:Zbb p):Zri p:=Zoo h.back
theorem size_le{l:List M.Pk}(h:∀ p∈l,Zbb p):M.Zbn l<=l.length*300:=by
 unfold M.Zbn
 induction l with
 | nil=>simp
 | cons p l ih=>
  have h1:=(h p (by simp)).len
  have h2:=ih (fun q hq=>h q (by simp[hq]))
  simp only[List.map_cons,List.sum_cons,List.length_cons]
  omega
theorem Z5g{l:List M.Pk}{k:Nat}(hk:k<l.length):M.Zbn (l.take (k+1))=M.Zbn (l.take k)+(M.Zaz l[k]).length:=by
 unfold M.Zbn
 rw[List.take_succ_eq_append_getElem hk,List.map_append,List.sum_append]
 simp
theorem Zze(lv:Value)(l:List M.Pk)(w:World)(hl:Zbc w lv l)(hln:l.length<=1000000)(hs:∀ p∈l,Zbb p):
 Calls Tryz.prog 69 #[lv] w fun e w'=>e=.returned (.int .i64 (M.Zbn l))/\Below w.heap.size w w':=by
 obtain⟨al,cl,el⟩:=hl.form
 subst el
 have HL:=hid hl
 have HS:=hid hs
 clear hl hs
 go_enter Tryz.func69,Tryz.ntmps69
 go_wp2
 go_loopw [3,4,5] (fun n i _ wr=>∃ (k m:Nat),n=.int .i64 m/\i=.int .i64 k/\k<=l.length/\m<=k*300/\Below w.heap.size w wr/\Hid (m=M.Zbn (l.take k))) (fun _ i _ _=>l.length-(intOf i).toNat)
 case atStart=>exact⟨0,0,rfl,rfl,Nat.zero_le _,Nat.le_refl _,Below.refl _ _,rfl⟩
 case round=>
  obtain⟨k,m,rfl,rfl,hk,hm,hBr,HM⟩:=hrel
  by_cases hlt:k<l.length
  ·obtain⟨g,off,rfl,_,hcap,hc⟩:=(HL.out.below hBr).cells hlt
   have hrp:=HS.out _ (List.getElem_mem hlt)
   obtain⟨nv,bv,fv,p0,p1,p2,p3,p4,hpv⟩:=Z0l hc
   have cP:=fun W (hb:Below wr.heap.size wr W)=>Zvq l[k] _ W (hpv.below hb) hrp.short
   have hlen:=hrp.len
   have HM2:Hid (M.Zbn (l.take (k+1))=M.Zbn (l.take k)+(M.Zaz l[k]).length):=Z5g hlt
   clear hrp hc
   obtain⟨nv',bv',fv',e,h1,h2,h3⟩:=hpv
   simp only[Value.agg.injEq,Array.mk.injEq,List.cons.injEq,and_true,true_and] at e
   obtain⟨rfl,rfl,rfl⟩:=e
   obtain⟨an,cn,en⟩:=h1.form
   obtain⟨ab,cb,eb⟩:=h2.form
   obtain⟨ac,cc,ec⟩:=h3.form
   subst en eb ec
   clear h1 h2 h3
   go_wp2_with fail
   refine(cP _ (Below.refl _ _)).mono ?_
   rintro e w2 ⟨S,rfl,hS,hB2⟩
   have hSz:S.size=(M.Zaz l[k]).length:=by rw[<-hS,Zaq]
   have hS3:S.size<=300:=by omega
   have HM3:Hid (m+S.size=M.Zbn (l.take (k+1))):=by show _ = _;rw[HM2.out,<-HM.out,hSz]
   have hB3:=bt hBr hB2
   clear hS hSz cP HM HM2 p0 p1 p2 p3 p4 hlen
   have hw:IntKind.i64.wrap ((m:Int)+S.size)=(m:Int)+S.size:=by rw[IntKind.wrap_i64];omega
   go_wp2
   go_roundw
   case rel=>exact⟨k+1,m+S.size,by go_num,by go_num,by omega,by omega,hB3,HM3⟩
   case measure=>simp[intOf];omega
  ·have hkk:k=l.length:=by omega
   have HM2:Hid (m=M.Zbn l):=by
    have h:=HM.out
    rw[hkk,List.take_length] at h
    exact h
   go_wp2
   go_ret
   exact⟨Za7 (congrArg Int.ofNat HM2.out),hBr⟩
end Go.Proofs.YtgnfknjopafngaaGreatDoor
