import Derived.Maps.AppendAt
import Derived.Test.YtgnfknjopafngabGreatDoorKng
import Derived.Test.YtgnfknjopafngabGreatDoorKnh
namespace Go.Proofs.YtgnfknjopafngabGreatDoor
open Go.RowKit
def PkRowG(g:Option Nat)(w:World):List M.Pk->List Value->Prop
 | [],xs=>xs=[]
 | p :: l,xs=>∃ nv bv fv xs' lo hi,xs=.string ⟨p.name.toArray⟩ :: .string ⟨p.ver.toArray⟩ :: nv :: bv :: fv :: xs'/\hi<=w.heap.size/\(∀ k,g=some k->k<lo\/hi<=k)/\
  NeedsIn w lo hi nv p.needs/\RowIn w lo hi bv p.bars.length (chsCells p.bars)/\RowIn w lo hi fv p.files.length (flsCells p.files)/\PkRowG g w l xs'
theorem PkRowG.row{g:Option Nat}{w:World}{l:List M.Pk}{xs:List Value}(h:PkRowG g w l xs):PkRow w l xs:=by
 induction l generalizing xs with
 | nil=>exact h
 | cons p l ih=>
  obtain⟨nv,bv,fv,xs',lo,hi,rfl,h1,h2,h3,h4,h5,h⟩:=h
  exact⟨nv,bv,fv,xs',rfl,h3.wide (Nat.zero_le _) h1,h4.wide (Nat.zero_le _) h1,h5.wide (Nat.zero_le _) h1,ih h⟩
theorem PkRowG.grown{g:Option Nat}{w w':World}{l:List M.Pk}{xs:List Value}(h:PkRowG g w l xs)(hg:w.grownBy w' g):PkRowG g w' l xs:=by
 induction l generalizing xs with
 | nil=>exact h
 | cons p l ih=>
  obtain⟨nv,bv,fv,xs',lo,hi,rfl,h1,h2,h3,h4,h5,h⟩:=h
  have kk:∀ a o,lo<=a->a<hi->CellS w w' a o:=fun a o ha hb=>blockS (hg.block a (by omega) (fun e=>by rcases h2 a e.symm with h|h <;> omega))
  exact⟨nv,bv,fv,xs',lo,hi,rfl,Nat.le_trans h1 hg.size,h2,h3.keep kk,h4.keep kk,h5.keep kk,ih h⟩
theorem PkRowG.below{g:Option Nat}{w w':World}{l:List M.Pk}{xs:List Value}(h:PkRowG g w l xs)(hb:Below w.heap.size w w'):PkRowG g w' l xs:=
 h.grown ⟨hb.os,hb.tape,hb.output,hb.size,fun k hk _=>hb.block k hk⟩
theorem PkRowG.step{g g':Option Nat}{w w':World}{l:List M.Pk}{xs:List Value}(h:PkRowG g w l xs)(hg:w.grownBy w' g)(hk:g'=g\/g'=some w.heap.size):PkRowG g' w' l xs:=by
 rcases hk with rfl|rfl
 ·exact h.grown hg
 ·induction l generalizing xs with
  | nil=>exact h
  | cons p l ih=>
   obtain⟨nv,bv,fv,xs',lo,hi,rfl,h1,h2,h3,h4,h5,h⟩:=h
   have kk:∀ a o,lo<=a->a<hi->CellS w w' a o:=fun a o ha hb=>blockS (hg.block a (by omega) (fun e=>by rcases h2 a e.symm with h|h <;> omega))
   exact⟨nv,bv,fv,xs',lo,hi,rfl,Nat.le_trans h1 hg.size,fun k e=>.inr (by cases e;exact h1),h3.keep kk,h4.keep kk,h5.keep kk,ih h⟩
theorem PkRowG.snoc{g:Option Nat}{w:World}{l:List M.Pk}{xs:List Value}{p:M.Pk}{lo:Nat}{nv bv fv:Value}(h:PkRowG g w l xs)(hlo:∀ k,g=some k->k<lo)
 (h1:NeedsIn w lo w.heap.size nv p.needs) (h2:RowIn w lo w.heap.size bv p.bars.length (chsCells p.bars)) (h3:RowIn w lo w.heap.size fv p.files.length (flsCells p.files)):
 PkRowG g w (l++[p]) (xs++[.string ⟨p.name.toArray⟩,.string ⟨p.ver.toArray⟩,nv,bv,fv]):=by
 induction l generalizing xs with
 | nil=>
  have e:xs=[]:=h
  subst e
  exact⟨nv,bv,fv,[],lo,w.heap.size,rfl,Nat.le_refl _,fun k e=>.inl (hlo k e),h1,h2,h3,rfl⟩
 | cons q l ih=>
  obtain⟨nv',bv',fv',xs',lo',hi',rfl,a1,a2,a3,a4,a5,a⟩:=h
  exact⟨nv',bv',fv',xs' ++ _,lo',hi',rfl,a1,a2,a3,a4,a5,ih a⟩
theorem read_small{s:List UInt8}{p:M.Pk}(h:M.readS s=.inr p):SmallP p:=by
 have hs:=readS_short h
 refine⟨Nat.le_trans hs.ver (by decide),Nat.le_trans hs.needn (by decide),fun g hg=>?_,Nat.le_trans hs.bars.1 (by decide),fun c hc=>Nat.le_trans (hs.bars.2 c hc).2.2 (by decide),Nat.le_trans hs.filen (by decide)⟩
 have:=hs.needs g hg
 exact⟨Nat.le_trans this.1 (by decide),fun c hc=>Nat.le_trans (this.2 c hc).2.2 (by decide)⟩
def SmallQ(p:M.Pk):Prop:=SmallP p/\∀ f∈p.files,f.path.length<=100000
theorem read_smallQ{s:List UInt8}{p:M.Pk}(h:M.readS s=.inr p):SmallQ p:=⟨read_small h,fun f hf=>Nat.le_trans ((readS_short h).files f hf).1 (by decide)⟩
theorem own_blk{w:World}{B e size n:Nat}{v:Value}{xs:List Value}(h:w.ownsRow B e size v n xs):∀ k,v.ownBlock=some k->k<w.heap.size:=fun k hk=>by
 obtain⟨_,⟨rfl,_⟩|⟨g,cap,cur,rfl,_,hg,_⟩⟩:=h
 ·cases hk
 ·injection hk with hk
  subst hk
  exact(Array.getElem?_eq_some_iff.1 hg).1
theorem five_new(w:World)(a b c d e:Value)(t:TypeId):∀ j u,[a,b,c,d,e][j]? = some u->(w.alloc (.cells #[a,b,c,d,e] t)).cell? ((⟨w.heap.size,0,none⟩:Addr).add j)=some u:=fun j u hj=>by
 rw[Addr.add_lit,Nat.zero_add]
 exact new_at w [a,b,c,d,e] t j u hj
def faV(f:M.Fa):Value:=.agg #[.int .i64 f.kind,.int .i64 f.which,.int .i64 f.line,.string ⟨f.name.toArray⟩]
theorem str_of{s:ByteArray}{l:List UInt8}(h:s.data.toList=l):s=⟨l.toArray⟩:=by
 subst h
 cases s
 simp
theorem str_ne{s:ByteArray}(h:s.toList.isEmpty=false):s.data.toList≠[]:=by
 rw[Lib.toList_data] at h
 intro e
 rw[e] at h
 cases h
theorem str_eq{s:ByteArray}(h:s.toList.isEmpty=true):s.data.toList=[]:=by
 rw[Lib.toList_data] at h
 exact List.isEmpty_iff.1 h
theorem texts_split{ts:List ByteArray}{k:Nat}(hk:k<ts.length):ts.map (fun p=>p.data.toList)=(ts.take k).map (fun p=>p.data.toList)++ts[k].data.toList :: (ts.drop (k+1)).map (fun p=>p.data.toList):=preL_split hk
theorem texts_take{ts:List ByteArray}{k:Nat}(hk:k<ts.length):(ts.take (k+1)).map (fun p=>p.data.toList)=(ts.take k).map (fun p=>p.data.toList)++[ts[k].data.toList]:=by
 rw[List.take_succ_eq_append_getElem hk,List.map_append];rfl
namespace M
theorem join_cons{sep x:List UInt8}{l:List (List UInt8)}(h:l≠[]):joinS sep (x :: l)=x++sep++joinS sep l:=by
 cases l with
 | nil=>exact absurd rfl h
 | cons y r=>rfl
theorem join_cutA{sep:List UInt8}:∀ (n:Nat) (cur rest:List UInt8),joinS sep (cutA sep n cur rest)=cur++rest
 | 0,cur,rest=>rfl
 | n+1,cur,rest=>by
  simp only[cutA]
  split
  ·rfl
  ·split
   ·rename_i h
    rw[join_cons (by intro e;have:=(cutA_len (sep:=sep) n [] (rest.drop sep.length)).1;rw[e] at this;simp at this),join_cutA n]
    conv=>rhs;rw[<-List.take_append_drop sep.length rest,h]
    simp
   ·rw[join_cutA n,List.append_assoc,List.take_append_drop]
theorem join_cut(s sep:List UInt8):joinS sep (cutS s sep)=s:=join_cutA _ _ _
theorem cut_no{c:UInt8}:∀ (n:Nat) (s:List UInt8),s.length<=n->∀ x∈cutS s [c],c ∉ x:=by
 intro n
 induction n with
 | zero=>
  intro s hs x hx
  have:s=[]:=List.length_eq_zero_iff.mp (by omega)
  subst this
  rw[(cut_miss (s:=[]) (c:=c) (by simp)).2] at hx
  simp at hx
  subst hx
  simp
 | succ n ih=>
  intro s hs x hx
  rcases cut_cases s c with ⟨h,_,e⟩|⟨a,b,rfl,h,_,e⟩
  ·rw[e] at hx
   simp at hx
   subst hx
   exact h
  ·rw[e] at hx
   rcases List.mem_cons.1 hx with rfl|hx
   ·exact h
   ·exact ih b (by simp at hs;omega) x hx
theorem cut_join{c:UInt8}:∀ (l:List (List UInt8)),l≠[]->(∀ s∈l,c ∉ s)->cutS (joinS [c] l) [c]=l
 | [],h,_=>absurd rfl h
 | [x],_,h=>(cut_miss (h x (by simp))).2
 | x :: y :: r,_,h=>by
  have e:joinS [c] (x :: y :: r)=x++c :: joinS [c] (y :: r):=by simp[joinS]
  rw[e,(cut_hit (h x (by simp))).2,cut_join (y :: r) (by simp) (fun s hs=>h s (by simp[hs]))]
theorem join_last{c:UInt8}:∀ (l:List (List UInt8)),l≠[]->(∀ s∈l,s≠[]/\c ∉ s)->joinS [c] l≠[]/\(joinS [c] l).getLast?≠some c
 | [],h,_=>absurd rfl h
 | [x],_,h=>by
  refine⟨(h x (by simp)).1,fun e=>(h x (by simp)).2 ?_⟩
  exact List.mem_of_getLast? e
 | x :: y :: r,_,h=>by
  obtain⟨h1,h2⟩:=join_last (c:=c) (y :: r) (by simp) (fun s hs=>h s (by simp[hs]))
  have e:joinS [c] (x :: y :: r)=x++[c]++joinS [c] (y :: r):=rfl
  rw[e]
  refine⟨by simp,?_⟩
  rw[List.getLast?_append]
  cases hj:(joinS [c] (y :: r)).getLast? with
  | none=>exact absurd (List.getLast?_eq_none_iff.1 hj) h1
  | some z=>rw[hj] at h2;exact h2
theorem sign_head{p:List UInt8}(h:isSignP p=true):p=40 :: p.drop 1/\p.drop 1≠[]:=by
 unfold isSignP at h
 simp only[Bool.or_eq_true,beq_iff_eq] at h
 rcases h with (((rfl|rfl)|rfl)|rfl)|rfl <;> decide
theorem choice_text{s:List UInt8}{c:Ch}(h:choiceS s=some c):chText c=s:=by
 have hj:=join_cut s [32]
 unfold choiceS at h
 split at h
 ·split at h
  ·cases h
   simp[chText]
  ·cases h
 ·rename_i p0 p1 p2 e
  split at h
  ·rename_i hc
   obtain⟨_,h0,_,hs,h41⟩:=hc
   cases h
   obtain⟨e1,e2⟩:=sign_head hs
   rw[e] at hj
   have e3:p2=p2.take (p2.length-1)++[41]:=by
    conv=>lhs;rw[<-List.take_append_drop (p2.length-1) p2]
    rw[eq_of_beq h41]
   unfold chText
   rw[if_neg e2,<-hj]
   simp only[joinS]
   conv=>rhs;rw[e1,e3]
   simp
  ·cases h
 ·cases h
theorem all_text{α:Type}{f:List UInt8->Option α}{t:α->List UInt8}(hf:∀ s c,f s=some c->t c=s):∀ {l:List (List UInt8)} {r:List α},allS f l=some r->r.map t=l
 | [],r,h=>by simp only[allS,Option.some.injEq] at h;subst h;rfl
 | s :: l,r,h=>by
  simp only[allS] at h
  split at h
  ·cases h
  ·rename_i c hc
   split at h
   ·cases h
   ·rename_i r' hr
    cases h
    rw[List.map_cons,hf s c hc,all_text hf hr]
theorem choices_text{s sep:List UInt8}{m:Nat}{l:List Ch}(h:choicesS s sep m=some l):printedS sep l=s/\l≠[]:=by
 unfold choicesS at h
 split at h
 ·cases h
 ·rename_i r hr
  split at h
  ·cases h
   have e:=all_text (t:=chText) (fun s c=>choice_text) hr
   refine⟨by unfold printedS;rw[e,join_cut],?_⟩
   rintro rfl
   have:=(cutS_len s sep).1
   rw[<-e] at this
   simp at this
  ·cases h
theorem groups_text{s:List UInt8}{l:List (List Ch)}(h:allS groupS (cutS s [44,32])=some l):joinS [44,32] (l.map (printedS [32,124,32]))=s/\l≠[]:=by
 have e:=all_text (t:=printedS [32,124,32]) (fun s c hc=>(choices_text hc).1) h
 refine⟨by rw[e,join_cut],?_⟩
 rintro rfl
 have:=(cutS_len s [44,32]).1
 rw[<-e] at this
 simp at this
theorem lead_split:∀ (s:List UInt8),lead (fun c=>decide (c≠61)) s≠s.length->s=s.take (lead (fun c=>decide (c≠61)) s)++61 :: s.drop (lead (fun c=>decide (c≠61)) s+1)
 | [],h=>absurd rfl h
 | b :: s,h=>by
  by_cases hb:decide ((b.toNat:Int)≠61)=true
  ·have e:lead (fun c=>decide (c≠61)) (b :: s)=lead (fun c=>decide (c≠61)) s+1:=by unfold lead;rw[List.takeWhile_cons_of_pos (p:=fun b:UInt8=>(fun c:Int=>decide (c≠61)) b.toNat) hb];rfl
   rw[e] at h ⊢
   have:=lead_split s (by simpa using h)
   rw[List.take_succ_cons,List.drop_succ_cons,List.cons_append,<-this]
  ·have e:lead (fun c=>decide (c≠61)) (b :: s)=0:=by unfold lead;rw[List.takeWhile_cons_of_neg (p:=fun b:UInt8=>(fun c:Int=>decide (c≠61)) b.toNat) hb];rfl
   rw[e]
   have:b=61:=by
    have h1:(b.toNat:Int)=61:=by simpa using hb
    exact UInt8.toNat_inj.1 (by simpa using (by omega:b.toNat=61))
   subst this
   rfl
theorem file_text{s:List UInt8}{f:Fl}(h:fileS s=some f):f.path++[61]++f.content=s:=by
 unfold fileS at h
 split at h
 ·cases h
 ·rename_i hl
  split at h
  ·cases h
   have:=lead_split s hl
   dsimp only
   rw[List.append_assoc]
   exact this.symm
  ·cases h
theorem title_text{s a b:List UInt8}(h:titleS s=some (a,b)):s=[112,97,99,107,97,103,101,32]++a++[32]++b:=by
 have hj:=join_cut s [32]
 unfold titleS at h
 split at h
 ·rename_i x y z e
  split at h
  ·rename_i hc
   cases h
   rw[e] at hj
   rw[<-hj,eq_of_beq hc.1]
   simp[joinS]
  ·cases h
 ·cases h
theorem begins_text{s t:List UInt8}(h:begins s t=true):s=t++s.drop t.length:=by
 unfold begins at h
 simp only[Bool.and_eq_true,decide_eq_true_eq,beq_iff_eq] at h
 conv=>lhs;rw[<-List.take_append_drop t.length s,h.2]
end M
namespace M
def insR(x:Fl):List Fl->List Fl
 | []=>[x]
 | y :: r=>if Op.bytesLess x.path y.path=true then y :: insR x r else x :: y :: r
theorem swap_at{α:Type}:∀ (a:List α) (y x:α) (b:List α),swapAt (a++y :: x :: b) a.length=a++x :: y :: b
 | [],y,x,b=>by simp[swapAt]
 | z :: a,y,x,b=>by
  have:=swap_at a y x b
  have e:swapAt (z :: (a++y :: x :: b)) (a.length+1)=z :: swapAt (a++y :: x :: b) a.length:=by
   unfold swapAt
   simp only[List.getElem?_cons_succ]
   split <;> simp_all
  rw[List.cons_append,List.length_cons,e,this,List.cons_append]
theorem bub_ins:∀ (r:List Fl) (x:Fl) (b:List Fl),bub r.length (r.reverse++x :: b)=(insR x r).reverse++b
 | [],x,b=>rfl
 | y :: r,x,b=>by
  have e:(y :: r).reverse++x :: b=r.reverse++y :: x :: b:=by simp
  have h1:(r.reverse++y :: x :: b)[r.length]? = some y:=by
   rw[List.getElem?_append_right (by simp)];simp
  have h2:(r.reverse++y :: x :: b)[r.length+1]? = some x:=by
   rw[List.getElem?_append_right (by simp)];simp
  rw[e,List.length_cons]
  unfold bub
  rw[h1,h2]
  dsimp only
  unfold insR
  by_cases hl:Op.bytesLess x.path y.path=true
  ·rw[if_pos hl,if_pos hl]
   have:=swap_at r.reverse y x b
   rw[List.length_reverse] at this
   rw[this,bub_ins r x (y :: b)]
   simp
  ·rw[if_neg hl,if_neg hl]
   simp
def SortedF(l:List Fl):Prop:=l.Pairwise fun f g=>Op.bytesLess g.path f.path=false
def DescF(l:List Fl):Prop:=l.Pairwise fun f g=>Op.bytesLess f.path g.path=false
theorem insR_mem{x z:Fl}:∀ {r:List Fl},z∈insR x r->z=x\/z∈r
 | [],h=>by simp[insR] at h;exact .inl h
 | y :: r,h=>by
  unfold insR at h
  split at h
  ·rcases List.mem_cons.1 h with rfl|h
   ·exact .inr (by simp)
   ·rcases insR_mem h with e|h
    ·exact .inl e
    ·exact .inr (by simp[h])
  ·rcases List.mem_cons.1 h with rfl|h
   ·exact .inl rfl
   ·exact .inr h
theorem insR_desc{x:Fl}:∀ {r:List Fl},DescF r->DescF (insR x r)
 | [],_=>by simp[insR,DescF]
 | y :: r,h=>by
  obtain⟨h1,h2⟩:=List.pairwise_cons.1 h
  unfold insR
  split
  ·rename_i hl
   refine List.pairwise_cons.2 ⟨fun z hz=>?_,insR_desc h2⟩
   rcases insR_mem hz with rfl|hz
   ·exact less_asymm hl
   ·exact h1 z hz
  ·rename_i hl
   have hl':Op.bytesLess x.path y.path=false:=by simpa using hl
   refine List.pairwise_cons.2 ⟨fun z hz=>?_,h⟩
   rcases List.mem_cons.1 hz with rfl|hz
   ·exact hl'
   ·exact le_le (h1 z hz) hl'
theorem srt_desc:∀ (b:List Fl) (m:Nat) (r:List Fl),b.length<=m->DescF r->∃ r',DescF r'/\srt m r.length (r.reverse++b)=r'.reverse
 | [],m,r,_,h=>⟨r,h,by
  rw[List.append_nil]
  cases m with
  | zero=>rfl
  | succ m=>unfold srt;rw[if_neg (by simp)]⟩
 | x :: b,m,r,hm,h=>by
  obtain⟨m,rfl⟩:∃ k,m=k+1:=⟨m-1,by simp at hm;omega⟩
  have hlen:∀ (q:List Fl),(insR x q).length=q.length+1:=by
   intro q
   induction q with
   | nil=>rfl
   | cons y q ih=>unfold insR;split <;> simp[ih]
  unfold srt
  rw[if_pos (by simp),bub_ins,<-hlen r]
  exact srt_desc b m (insR x r) (by simp at hm;omega) (insR_desc h)
theorem sortF_sorted(l:List Fl):SortedF (sortF l):=by
 unfold sortF
 cases l with
 | nil=>exact List.Pairwise.nil
 | cons x l=>
  obtain⟨r',h1,h2⟩:=srt_desc l (l.length+1) [x] (by omega) (by simp[DescF])
  have e:srt (x :: l).length 1 (x :: l)=r'.reverse:=h2
  rw[e]
  unfold SortedF
  rw[List.pairwise_reverse]
  exact h1
theorem bub_id{l:List Fl}(h:SortedF l):∀ k,bub k l=l
 | 0=>rfl
 | k+1=>by
  unfold bub
  split
  ·rename_i x y hx hy
   obtain⟨h1,rfl⟩:=List.getElem?_eq_some_iff.1 hx
   obtain⟨h2,rfl⟩:=List.getElem?_eq_some_iff.1 hy
   have:=List.pairwise_iff_getElem.1 h k (k+1) h1 h2 (by omega)
   rw[if_neg (by rw[this];simp)]
  ·rfl
theorem srt_id{l:List Fl}(h:SortedF l):∀ m i,srt m i l=l
 | 0,_=>rfl
 | m+1,i=>by
  unfold srt
  split
  ·rw[bub_id h i,srt_id h m]
  ·rfl
theorem sortF_id{l:List Fl}(h:SortedF l):sortF l=l:=srt_id h _ _
def titleL(p:Pk):List UInt8:=[112,97,99,107,97,103,101,32]++p.name++[32]++p.ver
def needsL(p:Pk):List (List UInt8):=if p.needs=[] then [] else [needsW++joinS [44,32] (p.needs.map (printedS [32,124,32]))]
def barsL(p:Pk):List (List UInt8):=if p.bars=[] then [] else [barsW++printedS [44,32] p.bars]
def fileL(f:Fl):List UInt8:=fileW++(f.path++[61]++f.content)
def formL(p:Pk):List (List UInt8):=titleL p :: (needsL p++(barsL p++p.files.map fileL))
theorem join_flat(x:List UInt8):∀ (l:List (List UInt8)),joinS [10] (x :: l)=x++l.flatMap (fun s=>10 :: s)
 | []=>by simp[joinS]
 | y :: l=>by rw[join_cons (by simp),join_flat y l];simp
theorem form_join(p:Pk):printS p=joinS [10] (formL p):=by
 unfold formL
 rw[join_flat]
 unfold printS titleL needsL barsL needsText barsText
 have e3:p.files.flatMap fileText=(p.files.map fileL).flatMap (fun s=>10 :: s):=by
  rw[List.flatMap_map]
  rfl
 rw[e3]
 by_cases h1:p.needs=[]
 ·by_cases h2:p.bars=[]
  ·simp[h1,h2]
  ·simp[h1,h2,barsW]
 ·by_cases h2:p.bars=[]
  ·simp[h1,h2,needsW]
  ·simp[h1,h2,needsW,barsW]
structure Valid (p:Pk):Prop where
 needs:p.needs=[]\/(allS groupS (cutS (joinS [44,32] (p.needs.map (printedS [32,124,32]))) [44,32])=some p.needs/\p.needs.length<=3)
 bars:p.bars=[]\/choicesS (printedS [44,32] p.bars) [44,32] 3=some p.bars
 files:∀ f∈p.files,fileS (f.path++[61]++f.content)=some f
 few:p.files.length<=4
 apart:p.files.Pairwise fun f g=>apart f g=true
theorem begins_app(s t:List UInt8):begins (s++t) s=true:=by unfold begins;simp
theorem begins_ne{a b:UInt8}{s t:List UInt8}(h:a≠b):begins (a :: s) (b :: t)=false:=by
 unfold begins
 simp[h]
theorem line_valid{p q:Pk}{k:Nat}{s:List UInt8}(hk:0<k)(hp:Valid p)(h:lineS p k s=some q):Valid q/\printS q=printS p++10 :: s:=by
 unfold lineS at h
 rw[if_neg (by omega)] at h
 split at h
 ·rename_i hb
  obtain⟨hb,h0⟩:=hb
  have n0:p.needs=[]:=List.length_eq_zero_iff.mp (by omega)
  have b0:p.bars=[]:=List.length_eq_zero_iff.mp (by omega)
  have f0:p.files=[]:=List.length_eq_zero_iff.mp (by omega)
  split at h
  ·cases h
  ·rename_i l hl
   split at h
   ·rename_i h3
    cases h
    obtain⟨e1,e2⟩:=groups_text hl
    refine⟨⟨.inr ⟨by dsimp only;rw[e1];exact hl,h3⟩,hp.bars,hp.files,hp.few,hp.apart⟩,?_⟩
    have es:=begins_text hb
    unfold printS needsText
    dsimp only
    rw[if_neg e2,e1,n0,b0,f0,if_pos rfl]
    conv=>rhs;rw[es]
    simp[barsText,needsW]
   ·cases h
 ·split at h
  ·rename_i hb
   obtain⟨hb,h0⟩:=hb
   have b0:p.bars=[]:=List.length_eq_zero_iff.mp (by omega)
   have f0:p.files=[]:=List.length_eq_zero_iff.mp (by omega)
   split at h
   ·cases h
   ·rename_i l hl
    cases h
    obtain⟨e1,e2⟩:=choices_text hl
    refine⟨⟨hp.needs,.inr (by dsimp only;rw[e1];exact hl),hp.files,hp.few,hp.apart⟩,?_⟩
    have es:=begins_text hb
    unfold printS barsText
    dsimp only
    rw[if_neg e2,e1,b0,f0,if_pos rfl]
    conv=>rhs;rw[es]
    simp[barsW]
  ·split at h
   ·rename_i hb
    obtain⟨hb,h4⟩:=hb
    split at h
    ·cases h
    ·rename_i f hf
     split at h
     ·rename_i ha
      cases h
      have e1:=file_text hf
      refine⟨⟨hp.needs,hp.bars,fun g hg=>?_,by simp;omega,?_⟩,?_⟩
      ·rcases List.mem_append.mp hg with hg|hg
       ·exact hp.files g hg
       ·simp at hg
        subst hg
        rw[e1]
        exact hf
      ·show (p.files++[f]).Pairwise _
       refine List.pairwise_append.2 ⟨hp.apart,by simp,fun g hg x hx=>?_⟩
       simp at hx
       subst hx
       exact apart_symm (List.all_eq_true.1 ha g hg)
      ·have es:=begins_text hb
       unfold printS
       dsimp only
       rw[List.flatMap_append]
       conv=>rhs;rw[es]
       simp only[List.flatMap_cons,List.flatMap_nil,fileText]
       have:List.drop fileW.length s=f.path++[61]++f.content:=e1.symm
       rw[this]
       simp[fileW]
     ·cases h
   ·cases h
theorem lines_valid:∀ {l:List (List UInt8)} {k:Nat} {p q:Pk},0<k->Valid p->linesS l k p=.inr q->Valid q/\printS q=printS p++l.flatMap (fun s=>10 :: s)
 | [],k,p,q,_,hp,h=>by simp only[linesS,Sum.inr.injEq] at h;subst h;exact⟨hp,by simp⟩
 | s :: l,k,p,q,hk,hp,h=>by
  simp only[linesS] at h
  split at h
  ·cases h
  ·rename_i p' e
   obtain⟨h1,h2⟩:=line_valid hk hp e
   obtain⟨h3,h4⟩:=lines_valid (Nat.succ_pos k) h1 h
   exact⟨h3,by rw[h4,h2];simp⟩
theorem whole_valid{l:List (List UInt8)}{q:Pk}(hl:l≠[])(h:linesS l 0 emptyPk=.inr q):Valid q/\printS q=joinS [10] l/\titleS (titleL q)=some (q.name,q.ver):=by
 cases l with
 | nil=>exact absurd rfl hl
 | cons x r=>
  simp only[linesS] at h
  split at h
  ·cases h
  ·rename_i p' hp
   unfold lineS at hp
   rw[if_pos rfl] at hp
   split at hp
   ·cases hp
   ·rename_i a b ht
    cases hp
    have hv:Valid { emptyPk with name:=a,ver:=b }:=⟨.inl rfl,.inl rfl,by simp[emptyPk],by simp[emptyPk],by simp[emptyPk]⟩
    obtain⟨h1,h2⟩:=lines_valid (by omega) hv h
    have e:printS { emptyPk with name:=a,ver:=b }=x:=by
     rw[title_text ht]
     simp[printS,emptyPk,needsText,barsText]
    refine⟨h1,by rw[h2,e,join_flat],?_⟩
    have e1:q.name=a:=(lines_name (by omega) h)
    have e2:q.ver=b:=by
     have gen:∀ {l:List (List UInt8)} {k:Nat} {p q:Pk},0<k->linesS l k p=.inr q->q.ver=p.ver:=by
      intro l
      induction l with
      | nil=>intro k p q _ h;simp only[linesS,Sum.inr.injEq] at h;subst h;rfl
      | cons s l ih=>
       intro k p q hk h
       simp only[linesS] at h
       split at h
       ·cases h
       ·rename_i p' e
        rw[ih (Nat.succ_pos k) h]
        unfold lineS at e
        rw[if_neg (by omega)] at e
        split at e
        ·split at e
         ·cases e
         ·split at e
          ·cases e;rfl
          ·cases e
        ·split at e
         ·split at e
          ·cases e
          ·cases e;rfl
         ·split at e
          ·split at e
           ·cases e
           ·split at e
            ·cases e;rfl
            ·cases e
          ·cases e
     exact gen (by omega) h
    unfold titleL
    rw[e1,e2,<-title_text ht]
    exact ht
end M
namespace M
theorem files_form(a b:List UInt8)(n:List (List Ch))(c:List Ch):∀ (fs acc:List Fl) (k:Nat),0<k->(∀ f∈fs,fileS (f.path++[61]++f.content)=some f)->acc.length+fs.length<=4->(acc++fs).Pairwise (fun f g=>apart f g=true)->
 linesS (fs.map fileL) k ⟨a,b,n,c,acc⟩=.inr ⟨a,b,n,c,acc++fs⟩
 | [],acc,k,_,_,_,_=>by simp[linesS]
 | f :: fs,acc,k,hk,hf,h4,hp=>by
  have e:lineS ⟨a,b,n,c,acc⟩ k (fileL f)=some ⟨a,b,n,c,acc++[f]⟩:=by
   unfold lineS
   rw[if_neg (by omega),if_neg (by rintro ⟨h,_⟩;have:begins (fileL f) needsW=false:=begins_ne (by decide);rw[this] at h;cases h),if_neg (by rintro ⟨h,_⟩;have:begins (fileL f) barsW=false:=begins_ne (by decide);rw[this] at h;cases h),
    if_pos ⟨begins_app fileW _,by simp at h4 ⊢;omega⟩]
   have e1:(fileL f).drop 5=f.path++[61]++f.content:=rfl
   rw[e1,hf f (by simp)]
   dsimp only
   rw[if_pos]
   rw[List.all_eq_true]
   intro g hg
   exact apart_symm ((List.pairwise_append.1 hp).2.2 g hg f (by simp))
  rw[List.map_cons]
  simp only[linesS]
  rw[e]
  dsimp only
  rw[files_form a b n c fs (acc++[f]) (k+1) (by omega) (fun g hg=>hf g (by simp[hg])) (by simp at h4 ⊢;omega) (by simpa using hp)]
  simp
theorem form_lines{p:Pk}(hv:Valid p)(ht:titleS (titleL p)=some (p.name,p.ver)):linesS (formL p) 0 emptyPk=.inr p:=by
 obtain⟨nm,vr,n,c,fs⟩:=p
 have e0:lineS emptyPk 0 (titleL ⟨nm,vr,n,c,fs⟩)=some ⟨nm,vr,[],[],[]⟩:=by
  unfold lineS
  rw[if_pos rfl,ht]
  rfl
 have hfs:∀ k,0<k->linesS (fs.map fileL) k ⟨nm,vr,n,c,[]⟩=.inr ⟨nm,vr,n,c,fs⟩:=fun k hk=>by
  have:=files_form nm vr n c fs [] k hk hv.files (by simpa using hv.few) (by simpa using hv.apart)
  simpa using this
 have hbs:∀ k,0<k->linesS (barsL ⟨nm,vr,n,c,fs⟩++fs.map fileL) k ⟨nm,vr,n,[],[]⟩=.inr ⟨nm,vr,n,c,fs⟩:=fun k hk=>by
  unfold barsL
  by_cases h:c=[]
  ·subst h
   rw[if_pos rfl]
   exact hfs k hk
  ·rw[if_neg h]
   have hb:choicesS (printedS [44,32] c) [44,32] 3=some c:=hv.bars.resolve_left h
   have e:lineS ⟨nm,vr,n,[],[]⟩ k (barsW++printedS [44,32] c)=some ⟨nm,vr,n,c,[]⟩:=by
    unfold lineS
    rw[if_neg (by omega),if_neg (by rintro ⟨h,_⟩;have:begins (barsW++printedS [44,32] c) needsW=false:=begins_ne (by decide);rw[this] at h;cases h),if_pos ⟨begins_app barsW _,rfl⟩]
    have e1:(barsW++printedS [44,32] c).drop 5=printedS [44,32] c:=rfl
    rw[e1,hb]
   simp only[List.cons_append,List.nil_append,linesS]
   rw[e]
   exact hfs (k+1) (by omega)
 have hns:∀ k,0<k->linesS (needsL ⟨nm,vr,n,c,fs⟩++(barsL ⟨nm,vr,n,c,fs⟩++fs.map fileL)) k ⟨nm,vr,[],[],[]⟩=.inr ⟨nm,vr,n,c,fs⟩:=fun k hk=>by
  unfold needsL
  by_cases h:n=[]
  ·subst h
   rw[if_pos rfl]
   exact hbs k hk
  ·rw[if_neg h]
   obtain⟨hb,h3⟩:=hv.needs.resolve_left h
   dsimp only at hb h3
   have e:lineS ⟨nm,vr,[],[],[]⟩ k (needsW++joinS [44,32] (n.map (printedS [32,124,32])))=some ⟨nm,vr,n,[],[]⟩:=by
    unfold lineS
    rw[if_neg (by omega),if_pos ⟨begins_app needsW _,rfl⟩]
    have e1:(needsW++joinS [44,32] (n.map (printedS [32,124,32]))).drop 6=joinS [44,32] (n.map (printedS [32,124,32])):=rfl
    rw[e1,hb]
    dsimp only
    rw[if_pos h3]
   simp only[List.cons_append,List.nil_append,linesS]
   rw[e]
   exact hbs (k+1) (by omega)
 unfold formL
 simp only[linesS]
 rw[e0]
 exact hns 1 (by omega)
theorem sum_perm_len{l k:List Fl}(h:l.Perm k):(l.flatMap fileText).length=(k.flatMap fileText).length:=by
 rw[List.length_flatMap,List.length_flatMap]
 exact(h.map _).sum_nat
theorem read_print{s:List UInt8}{p:Pk}(h:readS s=.inr p):(printS p).length<=s.length/\readS (printS p)=.inr p/\printS p≠[]:=by
 unfold readS at h
 split at h
 ·cases h
 ·rename_i h3
  split at h
  ·cases h
  ·rename_i q e
   cases h
   have hne:cutS (trimS s) [10]≠[]:=fun e=>by have:=(cutS_len (trimS s) [10]).1;rw[e] at this;simp at this
   obtain⟨hv,hpr,ht⟩:=whole_valid hne e
   rw[join_cut] at hpr
   have hperm:=sortF_perm q.files
   have hlen:(printS { q with files:=sortF q.files }).length=(printS q).length:=by
    unfold printS
    simp only[List.length_append]
    rw[sum_perm_len hperm]
   have hlen2:(printS { q with files:=sortF q.files }).length<=s.length:=by
    rw[hlen,hpr]
    unfold trimS
    split
    ·simp
    ·exact Nat.le_refl _
   have hv2:Valid { q with files:=sortF q.files }:=⟨hv.needs,hv.bars,fun f hf=>hv.files f (hperm.mem_iff.1 hf),by show (sortF q.files).length<=4;rw[hperm.length_eq];exact hv.few,(hperm.pairwise_iff (fun {a b} hab=>apart_symm hab)).2 hv.apart⟩
   have hno:∀ x∈formL { q with files:=sortF q.files },x≠[]/\(10:UInt8) ∉ x:=by
    intro x hx
    constructor
    ·unfold formL at hx
     rcases List.mem_cons.1 hx with rfl|hx
     ·simp[titleL]
     ·rcases List.mem_append.1 hx with hx|hx
      ·unfold needsL at hx
       split at hx
       ·cases hx
       ·simp at hx;subst hx;simp[needsW]
      ·rcases List.mem_append.1 hx with hx|hx
       ·unfold barsL at hx
        split at hx
        ·cases hx
        ·simp at hx;subst hx;simp[barsW]
       ·obtain⟨f,_,rfl⟩:=List.mem_map.1 hx
        simp[fileL,fileW]
    ·have hx2:x∈formL q:=by
      unfold formL at hx ⊢
      rcases List.mem_cons.1 hx with rfl|hx
      ·exact List.mem_cons_self
      ·refine List.mem_cons_of_mem _ ?_
       rcases List.mem_append.1 hx with hx|hx
       ·exact List.mem_append.2 (.inl hx)
       ·refine List.mem_append.2 (.inr ?_)
        rcases List.mem_append.1 hx with hx|hx
        ·exact List.mem_append.2 (.inl hx)
        ·obtain⟨f,hf,rfl⟩:=List.mem_map.1 hx
         exact List.mem_append.2 (.inr (List.mem_map.2 ⟨f,hperm.mem_iff.1 hf,rfl⟩))
     have hjoin:joinS [10] (formL q)=trimS s:=by rw[<-form_join,hpr]
     have key:∀ (l:List (List UInt8)) (y:List UInt8),y∈l->(10:UInt8)∈y->l≠[]->l.length<(cutS (joinS [10] l) [10]).length:=by
      intro l
      induction l with
      | nil=>intro y hy;cases hy
      | cons z r ih=>
       intro y hy h10 _
       have hz:∀ (z t:List UInt8),1<=(cutS z [10]).length/\((10:UInt8)∈z->2<=(cutS z [10]).length)/\(cutS (z++10 :: t) [10]).length=(cutS z [10]).length+(cutS t [10]).length:=by
        intro z
        have gen:∀ (n:Nat) (z:List UInt8),z.length<=n->∀ t:List UInt8,1<=(cutS z [10]).length/\((10:UInt8)∈z->2<=(cutS z [10]).length)/\(cutS (z++10 :: t) [10]).length=(cutS z [10]).length+(cutS t [10]).length:=by
         intro n
         induction n with
         | zero=>
          intro z hz t
          have:z=[]:=List.length_eq_zero_iff.mp (by omega)
          subst this
          rw[(cut_miss (s:=[]) (c:=10) (by simp)).2,(cut_hit (a:=[]) (b:=t) (c:=10) (by simp)).2]
          simp
          omega
         | succ n ih=>
          intro z hz t
          rcases cut_cases z 10 with ⟨h,_,e⟩|⟨a,b,rfl,h,_,e⟩
          ·rw[e,(cut_hit h).2]
           refine⟨by simp,fun k=>absurd k h,by simp;omega⟩
          ·obtain⟨i1,i2,i3⟩:=ih b (by simp at hz;omega) t
           rw[e,List.append_assoc,List.cons_append,(cut_hit h).2]
           refine⟨by simp,fun _=>by simp;omega,by simp[i3];omega⟩
        exact gen z.length z ler
       cases r with
       | nil=>
        simp at hy
        subst hy
        have:=(hz y []).2.1 h10
        simp[joinS]
        omega
       | cons z2 r=>
        rw[join_cons (by simp)]
        have e2:z++[10]++joinS [10] (z2 :: r)=z++10 :: joinS [10] (z2 :: r):=by simp
        rw[e2,(hz z _).2.2]
        have hle:∀ (l:List (List UInt8)),l≠[]->l.length<=(cutS (joinS [10] l) [10]).length:=by
         intro l
         induction l with
         | nil=>intro h;exact absurd rfl h
         | cons u v ihv=>
          intro _
          cases v with
          | nil=>have:=(hz u []).1;simp[joinS];omega
          | cons u2 v=>
           rw[join_cons (by simp)]
           have e3:u++[10]++joinS [10] (u2 :: v)=u++10 :: joinS [10] (u2 :: v):=by simp
           rw[e3,(hz u _).2.2]
           have:=ihv (by simp)
           have:=(hz u []).1
           simp at *
           omega
        rcases List.mem_cons.1 hy with rfl|hy
        ·have h1:=(hz y []).2.1 h10
         have h2:=hle (z2 :: r) (by simp)
         simp at h2 ⊢
         omega
        ·have h1:=ih y hy h10 (by simp)
         have h2:=(hz z []).1
         simp at h1 ⊢
         omega
     intro h10
     have h1:=key (formL q) x hx2 h10 (by simp[formL])
     rw[hjoin] at h1
     have h2:(cutS (trimS s) [10]).length=(formL q).length:=by
      have cnt:∀ (l:List (List UInt8)) (k:Nat) (p q:Pk),0<k->linesS l k p=.inr q->(needsL q).length+(barsL q).length+q.files.length=(needsL p).length+(barsL p).length+p.files.length+l.length:=by
       intro l
       induction l with
       | nil=>intro k p q _ h;simp only[linesS,Sum.inr.injEq] at h;subst h;rfl
       | cons y l ih=>
        intro k p q hk h
        simp only[linesS] at h
        split at h
        ·cases h
        ·rename_i p' hp'
         rw[ih (k+1) p' q (by omega) h,List.length_cons]
         have:(needsL p').length+(barsL p').length+p'.files.length=(needsL p).length+(barsL p).length+p.files.length+1:=by
          unfold lineS at hp'
          rw[if_neg (by omega)] at hp'
          split at hp'
          ·rename_i hb
           have n0:p.needs=[]:=List.length_eq_zero_iff.mp (by omega)
           split at hp'
           ·cases hp'
           ·rename_i l hl
            split at hp'
            ·cases hp'
             unfold needsL barsL
             dsimp only
             rw[if_neg (groups_text hl).2,if_pos n0]
             simp
             omega
            ·cases hp'
          ·split at hp'
           ·rename_i hb
            have b0:p.bars=[]:=List.length_eq_zero_iff.mp (by omega)
            split at hp'
            ·cases hp'
            ·rename_i l hl
             cases hp'
             unfold needsL barsL
             dsimp only
             rw[if_neg (choices_text hl).2,if_pos b0]
             simp
             omega
           ·split at hp'
            ·split at hp'
             ·cases hp'
             ·split at hp'
              ·cases hp'
               unfold needsL barsL
               simp
               omega
              ·cases hp'
            ·cases hp'
         omega
      cases hc:cutS (trimS s) [10] with
      | nil=>exact absurd hc hne
      | cons y r=>
       rw[hc] at e
       simp only[linesS] at e
       split at e
       ·cases e
       ·rename_i p' hp'
        have hc1:=cnt r 1 p' q (by omega) e
        unfold lineS at hp'
        rw[if_pos rfl] at hp'
        split at hp'
        ·cases hp'
        ·cases hp'
         unfold formL
         simp[needsL,barsL,emptyPk] at hc1 ⊢
         omega
     omega
   have hcut:cutS (printS { q with files:=sortF q.files }) [10]=formL { q with files:=sortF q.files }:=by
    rw[form_join]
    exact cut_join _ (by simp[formL]) (fun x hx=>(hno x hx).2)
   obtain⟨hl1,hl2⟩:=join_last (c:=10) (formL { q with files:=sortF q.files }) (by simp[formL]) hno
   rw[<-form_join] at hl1 hl2
   refine⟨hlen2,?_,hl1⟩
   have etrim:trimS (printS { q with files:=sortF q.files })=printS { q with files:=sortF q.files }:=by unfold trimS;rw[if_neg hl2]
   unfold readS
   rw[if_neg (by omega),etrim,hcut,form_lines hv2 (by exact ht)]
   dsimp only
   rw[sortF_id (sortF_sorted q.files)]
end M
def CodePost(s:ByteArray)(w:World)(e:Ending)(w':World):Prop:=
 ∃ (T N:ByteArray) (a b c:Nat),e=.returned (.tuple #[.string T,.agg #[.int .i64 a,.int .i64 b,.int .i64 c,.string N]])/\Below w.heap.size w w'/\
  (∀ n,readB s=.inl n->T=⟨#[]⟩/\N=⟨#[]⟩/\a=1/\b=0/\c=n)/\∀ p,readB s=.inr p->a=0/\T.data.toList=M.printS p
theorem PkVal.belowL{w w':World}{p:M.Pk}{v:Value}(h:PkVal w p v)(hb:Below w.heap.size w w'):PkVal w' p v:=by
 obtain⟨nv,bv,fv,e,h1,h2,h3⟩:=h
 have kk:∀ g o,0<=g->g<w.heap.size->CellS w w' g o:=fun g o _ hg=>belowS hb hg
 exact⟨nv,bv,fv,e,(h1.keep kk).wide ler hb.size,(h2.keep kk).wide ler hb.size,(h3.keep kk).wide ler hb.size⟩
theorem bytes_same{a b:ByteArray}(h:a.data.toList=b.data.toList):a=b:=by
 cases a with
 | mk x=>
  cases b with
  | mk y=>exact congrArg ByteArray.mk (Array.toList_inj.mp h)
abbrev StrsIn(w:World)(v:Value)(l:List ByteArray):Prop:=RowIn w 0 w.heap.size v l.length (l.map Value.string)
theorem nm_strs(l:List (List UInt8)):nmCells l=(l.map fun n=>(⟨n.toArray⟩:ByteArray)).map Value.string:=by
 unfold nmCells
 rw[List.map_map]
 rfl
def sectorsN(n:Int):Nat:=if n<16 then 16 else if 256<n then 256 else n.toNat
theorem sectorsN_le(n:Int):16<=sectorsN n/\sectorsN n<=256:=by
 unfold sectorsN
 split
 ·omega
 ·split <;> omega
structure ReadP (p:M.Pk):Prop where
 short:ShortP p
 len:(M.printS p).length<=300
 good:M.Good p
 name:p.name≠[]
 back:M.readS (M.printS p)=.inr p
theorem readP{s:List UInt8}{p:M.Pk}(h:M.readS s=.inr p):ReadP p:=by
 have h300:s.length<=300:=by
  unfold M.readS at h
  split at h
  ·cases h
  ·omega
 obtain⟨h1,h2,h3⟩:=M.read_print h
 obtain⟨h4,h5⟩:=M.read_good h
 exact⟨readS_short h,by omega,h4,h5,h2⟩
theorem ReadP.smallQ{p:M.Pk}(h:ReadP p):SmallQ p:=read_smallQ h.back
theorem size_le{l:List M.Pk}(h:∀ p∈l,ReadP p):M.sizeS l<=l.length*300:=by
 unfold M.sizeS
 induction l with
 | nil=>simp
 | cons p l ih=>
  have h1:=(h p (by simp)).len
  have h2:=ih (fun q hq=>h q (by simp[hq]))
  simp only[List.map_cons,List.sum_cons,List.length_cons]
  omega
end Go.Proofs.YtgnfknjopafngabGreatDoor
