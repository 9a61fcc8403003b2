import Derived.Test.YtgnfknjopafngaaGreatDoorKuo
import Derived.Maps.AppendAt
namespace Go.Proofs.YtgnfknjopafngaaGreatDoor
namespace M
structure Fa where
 kind:Nat
 which:Nat
 line:Nat
 name:List UInt8
def Ycn:Fa:=⟨0,0,0,[]⟩
def Zav:List (List UInt8)->Nat->List Pk->Sum Fa (List Pk)
 | [],_,acc=>.inr acc
 | t :: ts,i,acc=>match Zcp t with
  | .inl n=>.inl ⟨1,i,n,[]⟩
  | .inr p=>Zav ts (i+1) (acc++[p])
def Zbf:List Pk->Nat->List Pk->Sum Fa (List Pk)
 | [],_,all=>.inr all
 | p :: ps,i,all=>if 0<=Zex all p.name then .inl ⟨2,i,0,p.name⟩ else Zbf ps (i+1) (all++[p])
def Zcc(qQ qZ all:List Pk):Sum Fa (List Pk × List (List UInt8)):=
 if Za2 all≠[] then .inl ⟨4,0,0,Za2 all⟩
 else if Zbg all≠[] then .inl ⟨5,0,0,Zbg all⟩
 else if Za4 all≠[] then .inl ⟨6,0,0,Za4 all⟩
 else if Zfe (Zb2 qQ qZ.length qZ []).2≠[] then .inl ⟨7,0,0,Zfe (Zb2 qQ qZ.length qZ []).2⟩
 else .inr (all,(Zb2 qQ qZ.length qZ []).1)
def Zar(qQ:List Pk)(qX:List (List UInt8)):Sum Fa (List Pk × List (List UInt8)):=
 match Zav qX 0 [] with
 | .inl f=>.inl f
 | .inr qZ=>match Zbf qZ 0 qQ with
  | .inl f=>.inl f
  | .inr all=>Zcc qQ qZ all
def Zbn(l:List Pk):Nat:=(l.map fun p=>(Zaz p).length).sum
def Zap(qQ:List Pk)(qX:List (List UInt8))(room:Int):Sum Fa (List Pk):=
 match Zar qQ qX with
 | .inl f=>.inl f
 | .inr (all,_)=>if room<Zbn all then .inl ⟨8,0,0,[]⟩ else .inr all
def Zb4:List (List UInt8)->Nat->List Pk->Sum Fa (List Pk)
 | [],_,all=>.inr all
 | n :: ns,i,all=>match all.findIdx? (fun p=>p.name == n) with
  | none=>.inl ⟨3,i,0,n⟩
  | some k=>Zb4 ns (i+1) (all.take k++all.drop (k+1))
def Za6(qQ:List Pk)(qG:List (List UInt8)):Sum Fa (List Pk):=
 match Zb4 qG 0 qQ with
 | .inl f=>.inl f
 | .inr all=>if Za2 all≠[] then .inl ⟨4,0,0,Za2 all⟩ else .inr all
def Zfb(l:List Pk)(path:List UInt8):List UInt8:=match l.find? (fun p=>p.files.any fun f=>f.path == path) with
 | some p=>p.name
 | none=>[]
theorem Zfs:∀ (ts:List (List UInt8)) (i:Nat) (acc l:List Pk) (t:List UInt8) (r:List (List UInt8)),Zav ts i acc=.inr l->Zav (ts++t :: r) i acc=(match Zcp t with | .inl n=>.inl ⟨1,i+ts.length,n,[]⟩ | .inr p=>Zav r (i+ts.length+1) (l++[p]))
 | [],i,acc,l,t,r,h=>by simp only[Zav,Sum.inr.injEq] at h;subst h;rfl
 | s :: ts,i,acc,l,t,r,h=>by
  simp only[Zav,List.cons_append] at h ⊢
  cases hs:Zcp s with
  | inl n=>rw[hs] at h;cases h
  | inr p=>
   rw[hs] at h
   simp only at h ⊢
   rw[Zfs ts (i+1) (acc++[p]) l t r h,List.length_cons,show i+1+ts.length=i+(ts.length+1) by omega]
theorem Zge:∀ (ts:List (List UInt8)) (i:Nat) (acc l:List Pk),Zav ts i acc=.inr l->l.length=acc.length+ts.length
 | [],i,acc,l,h=>by simp only[Zav,Sum.inr.injEq] at h;subst h;rfl
 | s :: ts,i,acc,l,h=>by
  simp only[Zav] at h
  cases hs:Zcp s with
  | inl n=>rw[hs] at h;cases h
  | inr p=>
   rw[hs] at h
   have:=Zge ts (i+1) (acc++[p]) l h
   simp at this ⊢
   omega
theorem Zgm:∀ (ts:List (List UInt8)) (i:Nat) (acc l:List Pk),Zav ts i acc=.inr l->∀ p∈l,p∈acc\/∃ t∈ts,Zcp t=.inr p
 | [],i,acc,l,h=>by simp only[Zav,Sum.inr.injEq] at h;subst h;exact fun p hp=>.inl hp
 | s :: ts,i,acc,l,h=>by
  simp only[Zav] at h
  cases hs:Zcp s with
  | inl n=>rw[hs] at h;cases h
  | inr q=>
   rw[hs] at h
   intro p hp
   rcases Zgm ts (i+1) (acc++[q]) l h p hp with h'|⟨t,ht,e⟩
   ·rcases List.mem_append.1 h' with h'|h'
    ·exact .inl h'
    ·simp at h';subst h';exact .inr ⟨s,by simp,hs⟩
   ·exact .inr ⟨t,by simp[ht],e⟩
theorem Zgg:∀ (ps:List Pk) (i:Nat) (acc all:List Pk) (p:Pk) (r:List Pk),Zbf ps i acc=.inr all->Zbf (ps++p :: r) i acc=(if 0<=Zex all p.name then .inl ⟨2,i+ps.length,0,p.name⟩ else Zbf r (i+ps.length+1) (all++[p]))
 | [],i,acc,all,p,r,h=>by simp only[Zbf,Sum.inr.injEq] at h;subst h;rfl
 | q :: ps,i,acc,all,p,r,h=>by
  simp only[Zbf,List.cons_append] at h ⊢
  by_cases hq:0<=Zex acc q.name
  ·rw[if_pos hq] at h;cases h
  ·rw[if_neg hq] at h ⊢
   rw[Zgg ps (i+1) (acc++[q]) all p r h,List.length_cons,show i+1+ps.length=i+(ps.length+1) by omega]
theorem Zi9:∀ (ps:List Pk) (i:Nat) (acc all:List Pk),Zbf ps i acc=.inr all->all=acc++ps
 | [],i,acc,all,h=>by simp only[Zbf,Sum.inr.injEq] at h;subst h;simp
 | q :: ps,i,acc,all,h=>by
  simp only[Zbf] at h
  by_cases hq:0<=Zex acc q.name
  ·rw[if_pos hq] at h;cases h
  ·rw[if_neg hq] at h
   rw[Zi9 ps (i+1) (acc++[q]) all h];simp
theorem Zgx{l:List Pk}{n:List UInt8}:¬ 0<=Zex l n↔∀ p∈l,p.name≠n:=by
 unfold Zex
 cases h:l.findIdx? (fun p=>p.name == n) with
 | none=>
  refine⟨fun _ p hp=>?_,fun _=>by simp⟩
  simpa using List.findIdx?_eq_none_iff.1 h p hp
 | some k=>
  obtain⟨hk,e,_⟩:=List.findIdx?_eq_some_iff_getElem.1 h
  refine⟨fun h=>by simp only at h;omega,fun h=>absurd (by simpa using e) (h _ (List.getElem_mem hk))⟩
theorem Zii:∀ (ps:List Pk) (i:Nat) (acc all:List Pk),Zbf ps i acc=.inr all->Apart acc->Apart all
 | [],i,acc,all,h,ha=>by simp only[Zbf,Sum.inr.injEq] at h;subst h;exact ha
 | q :: ps,i,acc,all,h,ha=>by
  simp only[Zbf] at h
  by_cases hq:0<=Zex acc q.name
  ·rw[if_pos hq] at h;cases h
  ·rw[if_neg hq] at h
   refine Zii ps (i+1) (acc++[q]) all h ?_
   have:=Zgx.1 hq
   unfold Apart at *
   rw[List.map_append]
   refine List.nodup_append.2 ⟨ha,by simp,?_⟩
   intro a ha' b hb
   obtain⟨p,hp,rfl⟩:=List.mem_map.1 ha'
   simp at hb
   subst hb
   exact this p hp
end M
namespace M
structure Good (p:Pk):Prop where
 needs:∀ g∈p.needs,∀ c∈g,c.name≠[]
 bars:∀ c∈p.bars,c.name≠[]
 paths:∀ f∈p.files,f.path≠[]
 files:p.files.Pairwise fun f g=>apart f g=true
theorem Zxl{s:List UInt8}(h:Zfj s=true):s≠[]:=by
 rintro rfl
 revert h
 decide
theorem Z6u{s:List UInt8}{c:Ch}(h:Zc4 s=some c):c.name≠[]:=by
 unfold Zc4 at h
 split at h
 ·rename_i p0 e
  split at h
  ·rename_i hn
   cases h
   rintro rfl
   have:Zcn [] [32]=[[]]:=by decide
   rw[this] at e
   cases e
   exact Zxl hn rfl
  ·cases h
 ·split at h
  ·rename_i hn
   cases h
   exact Zxl hn.1
  ·cases h
 ·cases h
theorem Yc4{l:List (List UInt8)}:∀ {r:List Ch},Zfg Zc4 l=some r->∀ c∈r,c.name≠[]:=by
 induction l with
 | nil=>intro r h;simp only[Zfg,Option.some.injEq] at h;subst h;intro c hc;cases hc
 | cons s l ih=>
  intro r h
  simp only[Zfg] at h
  split at h
  ·cases h
  ·rename_i c0 h0
   split at h
   ·cases h
   ·rename_i r' hr
    cases h
    intro c hc
    rcases List.mem_cons.1 hc with rfl|hc
    ·exact Z6u h0
    ·exact ih hr c hc
theorem Zrd{s sep:List UInt8}{m:Nat}{l:List Ch}(h:Zbz s sep m=some l):∀ c∈l,c.name≠[]:=by
 unfold Zbz at h
 split at h
 ·cases h
 ·rename_i r hr
  split at h
  ·cases h;exact Yc4 hr
  ·cases h
theorem Z67{l:List (List UInt8)}:∀ {r:List (List Ch)},Zfg Zf2 l=some r->∀ g∈r,∀ c∈g,c.name≠[]:=by
 induction l with
 | nil=>intro r h;simp only[Zfg,Option.some.injEq] at h;subst h;intro c hc;cases hc
 | cons s l ih=>
  intro r h
  simp only[Zfg] at h
  split at h
  ·cases h
  ·rename_i c0 h0
   split at h
   ·cases h
   ·rename_i r' hr
    cases h
    intro g hg
    rcases List.mem_cons.1 hg with rfl|hg
    ·exact Zrd h0
    ·exact ih hr g hg
theorem Ybw{s:List UInt8}{f:Fl}(h:Zjs s=some f):f.path≠[]:=by
 unfold Zjs at h
 split at h
 ·cases h
 ·split at h
  ·rename_i hc
   cases h
   intro e
   have:=hc.1
   dsimp only at e
   rw[e] at this
   revert this
   decide
  ·cases h
theorem Zhf{f g:Fl}(h:apart f g=true):apart g f=true:=by
 unfold apart at *
 simp only[Bool.and_eq_true,Bool.not_eq_true',beq_eq_false_iff_ne] at h ⊢
 exact⟨⟨h.1.2,h.1.1⟩,fun e=>h.2 e.symm⟩
theorem Z3y{p q:Pk}{k:Nat}{s:List UInt8}(hp:Good p)(h:Zbw p k s=some q):Good q:=by
 unfold Zbw at h
 split at h
 ·split at h
  ·cases h
  ·cases h
   exact⟨hp.needs,hp.bars,hp.paths,hp.files⟩
 ·split at h
  ·split at h
   ·cases h
   ·rename_i l hl
    split at h
    ·cases h
     exact⟨Z67 hl,hp.bars,hp.paths,hp.files⟩
    ·cases h
  ·split at h
   ·split at h
    ·cases h
    ·rename_i l hl
     cases h
     exact⟨hp.needs,Zrd hl,hp.paths,hp.files⟩
   ·split at h
    ·split at h
     ·cases h
     ·rename_i f hf
      split at h
      ·rename_i ha
       cases h
       refine⟨hp.needs,hp.bars,fun g hg=>?_,?_⟩
       ·rcases List.mem_append.mp hg with hg|hg
        ·exact hp.paths g hg
        ·simp at hg
         subst hg
         exact Ybw hf
       ·show (p.files++[f]).Pairwise _
        refine List.pairwise_append.2 ⟨hp.files,by simp,fun g hg x hx=>?_⟩
        simp at hx
        subst hx
        exact Zhf (List.all_eq_true.1 ha g hg)
      ·cases h
    ·cases h
theorem Zqr:∀ {l:List (List UInt8)} {k:Nat} {p q:Pk},Good p->Zba l k p=.inr q->Good q
 | [],k,p,q,hp,h=>by simp only[Zba,Sum.inr.injEq] at h;subst h;exact hp
 | s :: l,k,p,q,hp,h=>by
  simp only[Zba] at h
  split at h
  ·cases h
  ·rename_i p' e
   exact Zqr (Z3y hp e) h
theorem Z0m{s a b:List UInt8}(h:Zew s=some (a,b)):a≠[]:=by
 unfold Zew at h
 split at h
 ·split at h
  ·rename_i hc;cases h;exact Zxl hc.2.1
  ·cases h
 ·cases h
theorem Z4p{p q:Pk}{k:Nat}{s:List UInt8}(hk:0<k)(h:Zbw p k s=some q):q.name=p.name:=by
 unfold Zbw at h
 rw[if_neg (by omega)] at h
 split at h
 ·split at h
  ·cases h
  ·split at h
   ·cases h;rfl
   ·cases h
 ·split at h
  ·split at h
   ·cases h
   ·cases h;rfl
  ·split at h
   ·split at h
    ·cases h
    ·split at h
     ·cases h;rfl
     ·cases h
   ·cases h
theorem Zma:∀ {l:List (List UInt8)} {k:Nat} {p q:Pk},0<k->Zba l k p=.inr q->q.name=p.name
 | [],k,p,q,_,h=>by simp only[Zba,Sum.inr.injEq] at h;subst h;rfl
 | s :: l,k,p,q,hk,h=>by
  simp only[Zba] at h
  split at h
  ·cases h
  ·rename_i p' e
   rw[Zma (Nat.succ_pos k) h,Z4p hk e]
theorem swap_perm{α:Type}:∀ (l:List α) (k:Nat),(swapAt l k).Perm l
 | [],_=>by unfold swapAt;simp
 | [a],0=>by unfold swapAt;simp
 | a :: b :: l,0=>by unfold swapAt;simp;exact List.Perm.swap _ _ _
 | a :: l,k+1=>by
  have e:swapAt (a :: l) (k+1)=a :: swapAt l k:=by
   unfold swapAt
   simp only[List.getElem?_cons_succ]
   split <;> simp_all
  rw[e]
  exact(swap_perm l k).cons a
theorem Z0o:∀ (k:Nat) (l:List Fl),(bub k l).Perm l
 | 0,l=>List.Perm.refl _
 | k+1,l=>by
  unfold bub
  split
  ·split
   ·exact(Z0o k _).trans (swap_perm l k)
   ·exact List.Perm.refl _
  ·exact List.Perm.refl _
theorem Z0w:∀ (m i:Nat) (l:List Fl),(srt m i l).Perm l
 | 0,_,l=>List.Perm.refl _
 | m+1,i,l=>by
  unfold srt
  split
  ·exact(Z0w m _ _).trans (Z0o i l)
  ·exact List.Perm.refl _
theorem Zjg(l:List Fl):(Zcs l).Perm l:=Z0w _ _ _
theorem Z1h:Good Zat:=⟨by simp[Zat],by simp[Zat],by simp[Zat],by simp[Zat]⟩
theorem Zp6{s:List UInt8}{p:Pk}(h:Zcp s=.inr p):Good p/\p.name≠[]:=by
 unfold Zcp at h
 split at h
 ·cases h
 ·split at h
  ·cases h
  ·rename_i q e
   cases h
   have hq:=Zqr Z1h e
   refine⟨⟨hq.needs,hq.bars,fun f hf=>hq.paths f ((Zjg _).mem_iff.1 hf),((Zjg q.files).pairwise_iff (fun {a b} hab=>Zhf hab)).2 hq.files⟩,?_⟩
   show q.name≠[]
   cases hc:Zcn (trimS s) [10] with
   | nil=>have:=(Zbx (trimS s) [10]).1;rw[hc] at this;simp at this
   | cons x r=>
    rw[hc] at e
    simp only[Zba] at e
    split at e
    ·cases e
    ·rename_i p' hp
     rw[Zma (by omega) e]
     unfold Zbw at hp
     rw[if_pos rfl] at hp
     split at hp
     ·cases hp
     ·rename_i a b ht
      cases hp
      exact Z0m ht
end M
theorem Zsk{s:List UInt8}{c:M.Ch}(h:M.Zc4 s=some c)(hs:s.length<=8000):c.name.length<=8000/\c.sign.length<=8000/\c.ver.length<=8000:=by
 have hm:=M.Zjp s [32]
 unfold M.Zc4 at h
 split at h
 ·split at h
  ·cases h;exact⟨hs,Nat.zero_le _,Nat.zero_le _⟩
  ·cases h
 ·rename_i p0 p1 p2 e
  rw[e] at hm
  have h0:=hm p0 (by simp)
  have h1:=hm p1 (by simp)
  have h2:=hm p2 (by simp)
  split at h
  ·cases h
   refine⟨Nat.le_trans h0 hs,?_,?_⟩
   ·simp only[List.length_drop];omega
   ·simp only[List.length_take];omega
  ·cases h
 ·cases h
theorem Ztx{α:Type}{f:List UInt8->Option α}:∀ {l:List (List UInt8)} {r:List α},M.Zfg f l=some r->r.length=l.length/\∀ y∈r,∃ x∈l,f x=some y
 | [],r,h=>by simp only[M.Zfg,Option.some.injEq] at h;subst h;simp
 | s :: l,r,h=>by
  simp only[M.Zfg] at h
  split at h
  ·cases h
  ·rename_i c hc
   split at h
   ·cases h
   ·rename_i r' hr
    cases h
    obtain⟨h1,h2⟩:=Ztx hr
    refine⟨by simp[h1],fun y hy=>?_⟩
    rcases List.mem_cons.mp hy with rfl|hy
    ·exact⟨s,by simp,hc⟩
    ·obtain⟨x,hx,e⟩:=h2 y hy
     exact⟨x,by simp[hx],e⟩
theorem Zj0{s sep:List UInt8}{m:Nat}{l:List M.Ch}(h:M.Zbz s sep m=some l)(hm:m<=1000)(hs:s.length<=8000):Zk2 l:=by
 refine⟨Nat.le_trans (Zm2 h) hm,?_⟩
 unfold M.Zbz at h
 split at h
 ·cases h
 ·rename_i r hr
  split at h
  ·cases h
   intro c hc
   obtain⟨x,hx,e⟩:=(Ztx hr).2 c hc
   exact Zsk e (Nat.le_trans (M.Zjp _ _ x hx) hs)
  ·cases h
theorem Zyq{s:List UInt8}{f:M.Fl}(h:M.Zjs s=some f)(hs:s.length<=8000):f.path.length<=8000/\f.content.length<=8000:=by
 unfold M.Zjs at h
 split at h
 ·cases h
 ·split at h
  ·cases h
   constructor
   ·simp only[List.length_take];omega
   ·simp only[List.length_drop];omega
  ·cases h
theorem Zt8{s:List UInt8}{a b:List UInt8}(h:M.Zew s=some (a,b))(hs:s.length<=8000):a.length<=8000/\b.length<=8000:=by
 have hm:=M.Zjp s [32]
 unfold M.Zew at h
 split at h
 ·rename_i x y z e
  rw[e] at hm
  have h1:=hm y (by simp)
  have h2:=hm z (by simp)
  split at h
  ·cases h;exact⟨by omega,by omega⟩
  ·cases h
 ·cases h
theorem Zxt{p q:M.Pk}{k:Nat}{s:List UInt8}(hp:Zgv p)(hs:s.length<=8000)(h:M.Zbw p k s=some q):Zgv q:=by
 unfold M.Zbw at h
 split at h
 ·split at h
  ·cases h
  ·rename_i a b e
   cases h
   have:=Zt8 e hs
   exact⟨this.1,this.2,hp.needn,hp.needs,hp.bars,hp.filen,hp.files⟩
 ·split at h
  ·split at h
   ·cases h
   ·rename_i l hl
    split at h
    ·cases h
     refine⟨hp.name,hp.ver,by show l.length<=_;omega,fun g hg=>?_,hp.bars,hp.filen,hp.files⟩
     obtain⟨x,hx,e⟩:=(Ztx hl).2 g hg
     refine Zj0 (s:=x) (sep:=[32,124,32]) (m:=3) e (by decide) ?_
     have:=M.Zjp _ _ x hx
     simp only[List.length_drop] at this
     omega
    ·cases h
  ·split at h
   ·split at h
    ·cases h
    ·rename_i l hl
     cases h
     exact⟨hp.name,hp.ver,hp.needn,hp.needs,Zj0 hl (by decide) (by simp only[List.length_drop];omega),hp.filen,hp.files⟩
   ·split at h
    ·rename_i hc
     split at h
     ·cases h
     ·rename_i f hf
      split at h
      ·cases h
       refine⟨hp.name,hp.ver,hp.needn,hp.needs,hp.bars,by simp;omega,fun g hg=>?_⟩
       rcases List.mem_append.mp hg with hg|hg
       ·exact hp.files g hg
       ·simp at hg
        subst hg
        exact Zyq hf (by simp only[List.length_drop];omega)
      ·cases h
    ·cases h
theorem Zmt:∀ {l:List (List UInt8)} {k:Nat} {p q:M.Pk},Zgv p->(∀ x∈l,x.length<=8000)->M.Zba l k p=.inr q->Zgv q
 | [],k,p,q,hp,_,h=>by simp only[M.Zba,Sum.inr.injEq] at h;subst h;exact hp
 | s :: l,k,p,q,hp,hl,h=>by
  simp only[M.Zba] at h
  split at h
  ·cases h
  ·rename_i p' e
   exact Zmt (Zxt hp (hl s (by simp)) e) (fun x hx=>hl x (by simp[hx])) h
theorem Z10{α:Type}{l:List α}{k:Nat}{x:α}(h:x∈M.swapAt l k):x∈l:=by
 unfold M.swapAt at h
 split at h
 ·rename_i a b ha hb
  have ia:a∈l:=List.mem_of_getElem? ha
  have ib:b∈l:=List.mem_of_getElem? hb
  rcases List.mem_or_eq_of_mem_set h with h|rfl
  ·rcases List.mem_or_eq_of_mem_set h with h|rfl
   ·exact h
   ·exact ia
  ·exact ib
 ·exact h
theorem Z6q:∀ {k:Nat} {l:List M.Fl} {x:M.Fl},x∈M.bub k l->x∈l
 | 0,l,x,h=>h
 | k+1,l,x,h=>by
  unfold M.bub at h
  split at h
  ·split at h
   ·exact Z10 (Z6q h)
   ·exact h
  ·exact h
theorem Z4g:∀ {m i:Nat} {l:List M.Fl} {x:M.Fl},x∈M.srt m i l->x∈l
 | 0,_,l,x,h=>h
 | m+1,i,l,x,h=>by
  unfold M.srt at h
  split at h
  ·exact Z6q (Z4g h)
  ·exact h
theorem Z4r:∀ (m i:Nat) (l:List M.Fl),(M.srt m i l).length=l.length
 | 0,_,l=>rfl
 | m+1,i,l=>by
  unfold M.srt
  split
  ·rw[Z4r m,M.Zo0]
  ·rfl
theorem Z05:Zgv M.Zat:=⟨by simp[M.Zat],by simp[M.Zat],by simp[M.Zat],by simp[M.Zat],⟨by simp[M.Zat],by simp[M.Zat]⟩,by simp[M.Zat],by simp[M.Zat]⟩
theorem Z5u(s:List UInt8):(M.trimS s).length<=s.length:=by
 unfold M.trimS
 split
 ·simp
 ·exact Nat.le_refl _
theorem Zkf{s:List UInt8}{p:M.Pk}(h:M.Zcp s=.inr p):Zgv p:=by
 unfold M.Zcp at h
 split at h
 ·cases h
 ·rename_i h3
  split at h
  ·cases h
  ·rename_i q e
   cases h
   have hq:=Zmt Z05 (fun x hx=>by have:=M.Zjp _ _ x hx;have:=Z5u s;omega) e
   exact⟨hq.name,hq.ver,hq.needn,hq.needs,hq.bars,by show (M.Zcs q.files).length<=_;unfold M.Zcs;rw[Z4r];exact hq.filen,fun f hf=>hq.files f (Z4g hf)⟩
end Go.Proofs.YtgnfknjopafngaaGreatDoor
namespace Go.Proofs.YtgnfknjopafngaaGreatDoor
open Go.RowKit
def Zdz(g:Option Nat)(w:World):List M.Pk->List Value->Prop
 | [],xs=>xs=[]
 | p :: l,xs=>∃ nv bv fv xs' lo hi,xs=.string ⟨p.name.toArray⟩ :: .string ⟨p.ver.toArray⟩ :: nv :: bv :: fv :: xs'/\hi<=w.heap.size/\(∀ k,g=some k->k<lo\/hi<=k)/\
  Za9 w lo hi nv p.needs/\Zas w lo hi bv p.bars.length (Zak p.bars)/\Zas w lo hi fv p.files.length (Zaf p.files)/\Zdz g w l xs'
theorem Zdz.row{g:Option Nat}{w:World}{l:List M.Pk}{xs:List Value}(h:Zdz g w l xs):Zei w l xs:=by
 induction l generalizing xs with
 | nil=>exact h
 | cons p l ih=>
  obtain⟨nv,bv,fv,xs',lo,hi,rfl,h1,h2,h3,h4,h5,h⟩:=h
  exact⟨nv,bv,fv,xs',rfl,h3.wide (Nat.zero_le _) h1,h4.wide (Nat.zero_le _) h1,h5.wide (Nat.zero_le _) h1,ih h⟩
theorem Zdz.grown{g:Option Nat}{w w':World}{l:List M.Pk}{xs:List Value}(h:Zdz g w l xs)(hg:w.grownBy w' g):Zdz g w' l xs:=by
 induction l generalizing xs with
 | nil=>exact h
 | cons p l ih=>
  obtain⟨nv,bv,fv,xs',lo,hi,rfl,h1,h2,h3,h4,h5,h⟩:=h
  have kk:∀ a o,lo<=a->a<hi->Zdr w w' a o:=fun a o ha hb=>Zlf (hg.block a (by omega) (fun e=>by rcases h2 a e.symm with h|h <;> omega))
  exact⟨nv,bv,fv,xs',lo,hi,rfl,Nat.le_trans h1 hg.size,h2,h3.keep kk,h4.keep kk,h5.keep kk,ih h⟩
theorem Zdz.below{g:Option Nat}{w w':World}{l:List M.Pk}{xs:List Value}(h:Zdz g w l xs)(hb:Below w.heap.size w w'):Zdz g w' l xs:=
 h.grown ⟨hb.os,hb.tape,hb.output,hb.size,fun k hk _=>hb.block k hk⟩
theorem Zdz.step{g g':Option Nat}{w w':World}{l:List M.Pk}{xs:List Value}(h:Zdz g w l xs)(hg:w.grownBy w' g)(hk:g'=g\/g'=some w.heap.size):Zdz g' w' l xs:=by
 rcases hk with rfl|rfl
 ·exact h.grown hg
 ·induction l generalizing xs with
  | nil=>exact h
  | cons p l ih=>
   obtain⟨nv,bv,fv,xs',lo,hi,rfl,h1,h2,h3,h4,h5,h⟩:=h
   have kk:∀ a o,lo<=a->a<hi->Zdr w w' a o:=fun a o ha hb=>Zlf (hg.block a (by omega) (fun e=>by rcases h2 a e.symm with h|h <;> omega))
   exact⟨nv,bv,fv,xs',lo,hi,rfl,Nat.le_trans h1 hg.size,fun k e=>.inr (by cases e;exact h1),h3.keep kk,h4.keep kk,h5.keep kk,ih h⟩
theorem Zdz.snoc{g:Option Nat}{w:World}{l:List M.Pk}{xs:List Value}{p:M.Pk}{lo:Nat}{nv bv fv:Value}(h:Zdz g w l xs)(hlo:∀ k,g=some k->k<lo)
 (h1:Za9 w lo w.heap.size nv p.needs) (h2:Zas w lo w.heap.size bv p.bars.length (Zak p.bars)) (h3:Zas w lo w.heap.size fv p.files.length (Zaf p.files)):
 Zdz g w (l++[p]) (xs++[.string ⟨p.name.toArray⟩,.string ⟨p.ver.toArray⟩,nv,bv,fv]):=by
 induction l generalizing xs with
 | nil=>
  have e:xs=[]:=h
  subst e
  exact⟨nv,bv,fv,[],lo,w.heap.size,rfl,Nat.le_refl _,fun k e=>.inl (hlo k e),h1,h2,h3,rfl⟩
 | cons q l ih=>
  obtain⟨nv',bv',fv',xs',lo',hi',rfl,a1,a2,a3,a4,a5,a⟩:=h
  exact⟨nv',bv',fv',xs' ++ _,lo',hi',rfl,a1,a2,a3,a4,a5,ih a⟩
theorem Zei.snoc{w:World}{l:List M.Pk}{xs:List Value}{p:M.Pk}{nv bv fv:Value}(h:Zei w l xs)
 (h1:Za9 w 0 w.heap.size nv p.needs) (h2:Zas w 0 w.heap.size bv p.bars.length (Zak p.bars)) (h3:Zas w 0 w.heap.size fv p.files.length (Zaf p.files)):
 Zei w (l++[p]) (xs++[.string ⟨p.name.toArray⟩,.string ⟨p.ver.toArray⟩,nv,bv,fv]):=
 h.app ⟨nv,bv,fv,[],rfl,h1,h2,h3,rfl⟩
theorem Z14{s:List UInt8}{p:M.Pk}(h:M.Zcp s=.inr p):Zdk p:=by
 have hs:=Zkf h
 refine⟨Nat.le_trans hs.ver (by decide),Nat.le_trans hs.needn (by decide),fun g hg=>?_,Nat.le_trans hs.bars.1 (by decide),fun c hc=>Nat.le_trans (hs.bars.2 c hc).2.2 (by decide),Nat.le_trans hs.filen (by decide)⟩
 have:=hs.needs g hg
 exact⟨Nat.le_trans this.1 (by decide),fun c hc=>Nat.le_trans (this.2 c hc).2.2 (by decide)⟩
def Zri(p:M.Pk):Prop:=Zdk p/\∀ f∈p.files,f.path.length<=100000
theorem Zoo{s:List UInt8}{p:M.Pk}(h:M.Zcp s=.inr p):Zri p:=⟨Z14 h,fun f hf=>Nat.le_trans ((Zkf h).files f hf).1 (by decide)⟩
theorem Z5v{w:World}{B e size n:Nat}{v:Value}{xs:List Value}(h:w.ownsRow B e size v n xs):∀ k,v.ownBlock=some k->k<w.heap.size:=fun k hk=>by
 obtain⟨_,⟨rfl,_⟩|⟨g,cap,cur,rfl,_,hg,_⟩⟩:=h
 ·cases hk
 ·injection hk with hk
  subst hk
  exact(Array.getElem?_eq_some_iff.1 hg).1
theorem Zsc(w:World)(a b c d e:Value)(t:TypeId):∀ j u,[a,b,c,d,e][j]? = some u->(w.alloc (.cells #[a,b,c,d,e] t)).cell? ((⟨w.heap.size,0,none⟩:Addr).add j)=some u:=fun j u hj=>by
 rw[Addr.add_lit,Nat.zero_add]
 exact Zbk w [a,b,c,d,e] t j u hj
theorem Zwn{w:World}(ty:TypeId)(sv:Value)(l:List M.Pk)(h:Zg4 w w sv l)(hn:l.length<=1000000):
 ∃ v' w' xs,(Builtin.append_ #[77,77] ty #[.slice none 0 0,sv]).run Tryz.prog w=.ok v' w'/\w'.ownsRow w.heap.size 30 5 v' l.length xs/\Zei w l xs/\Below w.heap.size w w':=by
 obtain⟨i0,hi0,hz0,hz1,hz2⟩:=info_parts Z6a
 rcases h with ⟨rfl,a,c,rfl⟩|⟨g,off,c,news,rfl,hc,hr,hg,hcl⟩
 ·exact⟨_,w,[],run_append_nothing w _ ty _ i0 Tryz.underlying77 hi0 none a 0 0 c ler,World.ownsRow_nil _ _ _ _,rfl,Below.refl _ _⟩
 ·have hnl:=hr.len
  have hcn:∀ j u,news[j]? = some u->w.cell? ((⟨g,off,none⟩:Addr).add j)=some u:=fun j u hu=>by rw[Addr.add_lit];exact hcl j u hu
  obtain⟨v',w',hrun,r1,r2,_⟩:=run_append_own (P:=Tryz.prog) w w.heap.size 77 ty 30 i0 _ 5 104 Tryz.underlying77 hi0 hz0 hz1 hz2 rfl (by decide) (.slice none 0 0) 0 [] (World.ownsRow_nil w _ _ 5) ⟨g,off,none⟩ l.length c news hnl hcn hr.one (by unfold maxLen;omega) (by omega) ler
  rw[Nat.zero_add,List.nil_append] at r1
  exact⟨v',w',news,hrun,r1,hr,(Below.refl _ w).grown r2 ler (fun j hj=>by simp[Value.ownBlock] at hj)⟩
theorem Zll{w:World}{ops:Array Oper}{rest:List Oper}{o:Oper}{a:Act}{Q:Exit->Act->World->Prop}(hg:o.guard=none)(s x:Operand)
 (hop:o.op=Op.call { callee:=Callee.builtin Builtin.append,args:=#[s,x],argTypes:=#[77,77] })
 (sv:Value) (l:List M.Pk) (hs:a.eval s=.slice none 0 0) (hx:a.eval x=sv) (h:Zg4 w w sv l) (hn:l.length<=1000000)
 (hK:∀ v' w' xs,w'.ownsRow w.heap.size 30 5 v' l.length xs->Zei w l xs->Below w.heap.size w w'->wpList Tryz.prog ops Q rest (a.put o.dst v') w'):wpList Tryz.prog ops Q (o :: rest) a w:=by
 refine wpList_plain hg fun K hK'=>?_
 obtain⟨v',w',xs,hrun,r1,r2,r3⟩:=Zwn o.type sv l h hn
 unfold Oper.wp
 simp[execOp,hop,resolve,invoke,builtin,hs,hx,hrun,Result.andThen]
 exact hK' _ _ (hK v' w' xs r1 r2 r3)
end Go.Proofs.YtgnfknjopafngaaGreatDoor
