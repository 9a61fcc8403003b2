import Derived.Lib.Bytealg
import Derived.Below
import Derived.WalkKit
import Derived.WalkSpells
import Derived.WalkLawsBesides
import Derived.WalkSmall
import Derived.Lib.Walk
import Derived.Lib.Strings
import Derived.Lib.IndexBytes
import Derived.Deep.DeepMust
import Derived.Deep.QuietTactic
import Derived.BigQuiet
import Derived.Shelf.Abstract
import Derived.Test.YtgnfknjopafngabGreatDoorProg
import Derived.RegionTactic
import Derived.BigRegion
import Derived.Deep.RegionLaw
import GoSem.Op.String
namespace Go.Proofs.YtgnfknjopafngabGreatDoor
namespace M
def isD(c:Int):Bool:=decide (48<=c/\c<=57)
def isNo(c:Int):Bool:=!isD c
def isSm(c:Int):Bool:=decide (97<=c/\c<=122)
def isLt(c:Int):Bool:=decide ((97<=c/\c<=122)\/(65<=c/\c<=90))
def cmpI(x y:Int):Int:=if x<y then -1 else if y<x then 1 else 0
def rk(c:Int):Int:=if c=126 then -1 else if isLt c=true then c else 256+c
def lead(p:Int->Bool)(l:List UInt8):Nat:=(l.takeWhile (fun b=>p b.toNat)).length
theorem isD_t{c:Int}(h:48<=c)(k:c<=57):isD c=true:=by unfold isD;simp;omega
theorem isD_f1{c:Int}(h:c<48):isD c=false:=by unfold isD;simp;omega
theorem isD_f2{c:Int}(h:57<c):isD c=false:=by unfold isD;simp;omega
theorem lead_le(p:Int->Bool)(l:List UInt8):lead p l<=l.length:=by
 unfold lead;exact(List.takeWhile_sublist _).length_le
theorem lead_nil(p:Int->Bool):lead p []=0:=rfl
theorem lead_cons(p:Int->Bool)(b:UInt8)(l:List UInt8):lead p (b :: l)=if p b.toNat=true then lead p l+1 else 0:=by
 unfold lead
 simp only[List.takeWhile_cons]
 by_cases h:p b.toNat=true <;> simp[h]
theorem lead_eq{p:Int->Bool}:∀ {l:List UInt8} {k:Nat},(∀ j (h:j<l.length),j<k->p (l[j]).toNat=true)->k<=l.length->(∀ (h:k<l.length),p (l[k]).toNat=false)->lead p l=k
 | [],k,_,hk,_=>by simp at hk;subst hk;rfl
 | b :: l,0,_,_,hn=>by
  rw[lead_cons]
  have:=hn (by simp)
  simp at this
  simp[this]
 | b :: l,k+1,ha,hk,hn=>by
  rw[lead_cons]
  have h0:=ha 0 (by simp) (by omega)
  simp at h0
  rw[if_pos h0,lead_eq (l:=l) (k:=k) (fun j h hj=>ha (j+1) (by simpa using h) (by omega)) (by simpa using hk) (fun h=>hn (by simpa using h))]
def at'(s t:List UInt8)(j:Nat):Bool:=(t.drop j).take s.length == s
def strip(l:List UInt8):List UInt8:=l.dropWhile (fun b=>b == 48)
end M
namespace M
def nameP(c:Int):Bool:=decide ((97<=c/\c<=122)\/(48<=c/\c<=57)\/c=45)
def verP(c:Int):Bool:=decide ((97<=c/\c<=122)\/(65<=c/\c<=90)\/(48<=c/\c<=57)\/c=46\/c=43\/c=45\/c=126)
def partP(c:Int):Bool:=decide ((97<=c/\c<=122)\/(48<=c/\c<=57)\/c=46\/c=95)
def made(p:Int->Bool)(least most:Nat)(s:List UInt8):Bool:=s.all (fun b=>p b.toNat) && (decide (least<=s.length) && decide (s.length<=most))
def headP(p:Int->Bool)(s:List UInt8):Bool:=match s with
 | []=>false
 | b :: _=>p b.toNat
def isNameS(s:List UInt8):Bool:=made nameP 1 12 s && headP isSm s
def isVerS(s:List UInt8):Bool:=made verP 1 16 s && headP isD s
def cutA(sep:List UInt8):Nat->List UInt8->List UInt8->List (List UInt8)
 | 0,cur,rest=>[cur++rest]
 | n+1,cur,rest=>
  if rest.length<sep.length then [cur++rest]
  else if rest.take sep.length=sep then cur :: cutA sep n [] (rest.drop sep.length)
  else cutA sep n (cur++rest.take 1) (rest.drop 1)
def cutS(s sep:List UInt8):List (List UInt8):=cutA sep s.length [] s
theorem cutA_any{sep:List UInt8}(hs:0<sep.length):∀ (n m:Nat) (cur rest:List UInt8),rest.length<=n->rest.length<=m->cutA sep n cur rest=cutA sep m cur rest
 | 0,0,_,_,_,_=>rfl
 | 0,m+1,cur,rest,hn,_=>by
  have:rest=[]:=List.length_eq_zero_iff.mp (by omega)
  subst this
  simp only[cutA,List.length_nil]
  rw[if_pos hs]
 | n+1,0,cur,rest,_,hm=>by
  have:rest=[]:=List.length_eq_zero_iff.mp (by omega)
  subst this
  simp only[cutA,List.length_nil]
  rw[if_pos hs]
 | n+1,m+1,cur,rest,hn,hm=>by
  simp only[cutA]
  by_cases h1:rest.length<sep.length
  ·rw[if_pos h1,if_pos h1]
  ·rw[if_neg h1,if_neg h1]
   rw[cutA_any hs n m [] (rest.drop sep.length) (by simp;omega) (by simp;omega),cutA_any hs n m (cur++rest.take 1) (rest.drop 1) (by simp;omega) (by simp;omega)]
theorem cutA_stop{sep:List UInt8}(n:Nat)(cur rest:List UInt8)(h:rest.length<sep.length):cutA sep n cur rest=[cur++rest]:=by
 cases n with
 | zero=>rfl
 | succ n=>simp only[cutA];rw[if_pos h]
theorem cutA_hit{sep:List UInt8}(hs:0<sep.length)(n m:Nat)(cur rest:List UInt8)(hn:rest.length<=n)(hm:(rest.drop sep.length).length<=m)(h:¬ rest.length<sep.length)(h2:rest.take sep.length=sep):
 cutA sep n cur rest=cur :: cutA sep m [] (rest.drop sep.length):=by
 cases n with
 | zero=>omega
 | succ n=>
  simp only[cutA]
  rw[if_neg h,if_pos h2,cutA_any hs n m _ _ (by simp;omega) hm]
theorem cutA_miss{sep:List UInt8}(hs:0<sep.length)(n m:Nat)(cur rest:List UInt8)(hn:rest.length<=n)(hm:(rest.drop 1).length<=m)(h:¬ rest.length<sep.length)(h2:¬ rest.take sep.length=sep):
 cutA sep n cur rest=cutA sep m (cur++rest.take 1) (rest.drop 1):=by
 cases n with
 | zero=>omega
 | succ n=>
  simp only[cutA]
  rw[if_neg h,if_neg h2,cutA_any hs n m _ _ (by simp;omega) hm]
theorem cutA_len{sep:List UInt8}:∀ (n:Nat) (cur rest:List UInt8),0<(cutA sep n cur rest).length/\(cutA sep n cur rest).length<=n+1
 | 0,_,_=>by simp[cutA]
 | n+1,cur,rest=>by
  simp only[cutA]
  split
  ·simp
  ·split
   ·have:=cutA_len (sep:=sep) n [] (rest.drop sep.length);simp;omega
   ·have:=cutA_len (sep:=sep) n (cur++rest.take 1) (rest.drop 1);omega
theorem cutS_len(s sep:List UInt8):0<(cutS s sep).length/\(cutS s sep).length<=s.length+1:=cutA_len _ _ _
theorem cutA_mem{sep:List UInt8}:∀ (n:Nat) (cur rest:List UInt8),∀ x∈cutA sep n cur rest,x.length<=cur.length+rest.length
 | 0,cur,rest,x,hx=>by simp[cutA] at hx;subst hx;simp
 | n+1,cur,rest,x,hx=>by
  simp only[cutA] at hx
  split at hx
  ·simp at hx;subst hx;simp
  ·split at hx
   ·rcases List.mem_cons.mp hx with rfl|hx
    ·omega
    ·have:=cutA_mem (sep:=sep) n [] (rest.drop sep.length) x hx;simp at this;omega
   ·have:=cutA_mem (sep:=sep) n (cur++rest.take 1) (rest.drop 1) x hx
    simp only[List.length_append,List.length_take,List.length_drop] at this;omega
theorem cutS_mem(s sep:List UInt8)(x:List UInt8)(h:x∈cutS s sep):x.length<=s.length:=by
 have:=cutA_mem (sep:=sep) s.length [] s x h;simpa using this
def begins(s t:List UInt8):Bool:=decide (t.length<=s.length) && (s.take t.length == t)
def over(a b:List UInt8):Bool:=begins b (a++[47])
structure Ch where
 name:List UInt8
 sign:List UInt8
 ver:List UInt8
structure Fl where
 path:List UInt8
 content:List UInt8
structure Pk where
 name:List UInt8
 ver:List UInt8
 needs:List (List Ch)
 bars:List Ch
 files:List Fl
def isSignP(p:List UInt8):Bool:=p == [40,60,60] || p == [40,60,61] || p == [40,61] || p == [40,62,61] || p == [40,62,62]
def choiceS(s:List UInt8):Option Ch:=match cutS s [32] with
 | [p0]=>if isNameS p0=true then some ⟨s,[],[]⟩ else none
 | [p0,p1,p2]=>
  if isNameS p0=true/\0<p2.length/\isVerS (p2.take (p2.length-1))=true/\isSignP p1=true/\(p2.drop (p2.length-1) == [41])=true then some ⟨p0,p1.drop 1,p2.take (p2.length-1)⟩ else none
 | _=>none
def allS{α:Type}(f:List UInt8->Option α):List (List UInt8)->Option (List α)
 | []=>some []
 | s :: l=>match f s with
  | none=>none
  | some c=>match allS f l with
   | none=>none
   | some r=>some (c :: r)
def choicesS(s sep:List UInt8)(most:Nat):Option (List Ch):=match allS choiceS (cutS s sep) with
 | none=>none
 | some l=>if l.length<=most then some l else none
def isPathS(s:List UInt8):Bool:=(cutS s [47]).all (fun q=>made partP 1 8 q && !(q == [46]) && !(q == [46,46])) && decide ((cutS s [47]).length<=3)
def fileS(s:List UInt8):Option Fl:=
 if lead (fun c=>decide (c≠61)) s=s.length then none
 else if isPathS (s.take (lead (fun c=>decide (c≠61)) s))=true/\s.length-lead (fun c=>decide (c≠61)) s-1<=24 then
  some ⟨s.take (lead (fun c=>decide (c≠61)) s),s.drop (lead (fun c=>decide (c≠61)) s+1)⟩
 else none
def needsW:List UInt8:=[110,101,101,100,115,32]
def barsW:List UInt8:=[98,97,114,115,32]
def fileW:List UInt8:=[102,105,108,101,32]
def titleS(s:List UInt8):Option (List UInt8 × List UInt8):=match cutS s [32] with
 | [a,b,c]=>if (a == [112,97,99,107,97,103,101])=true/\isNameS b=true/\isVerS c=true then some (b,c) else none
 | _=>none
def apart(f g:Fl):Bool:=!over f.path g.path && !over g.path f.path && !(f.path == g.path)
def groupS(s:List UInt8):Option (List Ch):=choicesS s [32,124,32] 3
def lineS(p:Pk)(k:Nat)(s:List UInt8):Option Pk:=
 if k=0 then (match titleS s with
  | none=>none
  | some (a,b)=>some { p with name:=a,ver:=b })
 else if begins s needsW=true/\p.needs.length+p.bars.length+p.files.length=0 then (match allS groupS (cutS (s.drop 6) [44,32]) with
  | none=>none
  | some l=>if l.length<=3 then some { p with needs:=l } else none)
 else if begins s barsW=true/\p.bars.length+p.files.length=0 then (match choicesS (s.drop 5) [44,32] 3 with
  | none=>none
  | some l=>some { p with bars:=l })
 else if begins s fileW=true/\p.files.length<4 then (match fileS (s.drop 5) with
  | none=>none
  | some f=>if p.files.all (apart f)=true then some { p with files:=p.files++[f] } else none)
 else none
end M
end Go.Proofs.YtgnfknjopafngabGreatDoor
namespace Go.Proofs.YtgnfknjopafngabGreatDoor
open Go.RowKit
theorem ret_bool{a b:Bool}(h:a=b):Ending.returned (.bool a)=.returned (.bool b):=by rw[h]
theorem ret_int{k:IntKind}{a b:Int}(h:a=b):Ending.returned (.int k a)=.returned (.int k b):=by rw[h]
theorem ret_str{a b:ByteArray}(h:a=b):Ending.returned (.string a)=.returned (.string b):=by rw[h]
theorem bytes_of{s t:ByteArray}(h:s.data.toList=t.data.toList):s=t:=by
 obtain⟨⟨a⟩⟩:=s;obtain⟨⟨b⟩⟩:=t
 simp at h;rw[h]
theorem mk_toList(l:List UInt8):(ByteArray.mk l.toArray).data.toList=l:=rfl
theorem ext_from(s:ByteArray)(k:Nat):(s.extract k s.size).data.toList=s.data.toList.drop k:=Lib.extract_to_end s k
theorem ext_upto(s:ByteArray)(k:Nat):(s.extract 0 k).data.toList=s.data.toList.take k:=by rw[Lib.extract_data];simp
theorem ext_size(s:ByteArray)(i j:Nat):(s.extract i j).size<=s.size:=by simp;omega
def lenOf:Value->Nat
 | .string t=>t.size
 | _=>0
theorem quiet_add{P:Program}{f:FuncId}{args:Array Value}{w:World}{n k:Nat}{v:Value}
 (h:Calls P f args (w.drewN (n+k)) fun e w'=>e=.returned v/\w'=w.drewN (n+k)):Calls P f args (w.drewN (n+k)) fun e w''=>e=.returned v/\∃ m,w''=w.drewN (n+m):=
 h.mono fun _ _ ⟨he,hm⟩=>⟨he,k,hm⟩
theorem drewN_add(w:World)(n k:Nat):(w.drewN n).drewN k=w.drewN (n+k):=by simp[World.drewN,Nat.add_assoc]
theorem below_same(w:World)(n:Nat):Below w.heap.size w (w.drewN n):=below_drewN (Below.refl _ _) n
theorem bt{w wr w':World}(h:Below w.heap.size w wr)(k:Below wr.heap.size wr w'):Below w.heap.size w w':=h.trans (k.mono h.size)
theorem one_new(w:World)(x:Value)(t:TypeId):∀ j u,[x][j]? = some u->(w.alloc (.cells #[x] t)).cell? ((⟨w.heap.size,0,none⟩:Addr).add j)=some u:=by
 intro j u hj
 cases j with
 | zero=>simp at hj;subst hj;simp[Addr.add]
 | succ j=>simp at hj
theorem hid{p:Prop}(h:p):Hid p:=h
theorem ler{n:Nat}:n<=n:=Nat.le_refl n
theorem infoStr:(Tryz.prog.info? 9).map (fun i=>(i.zero,i.size,i.bytes))=some (some (.string ⟨#[]⟩),1,16):=by kernel_rfl
def strV(l:List UInt8):Value:=.string ⟨l.toArray⟩
def cutB(s sep:ByteArray):List (List UInt8):=M.cutS s.data.toList sep.data.toList
theorem bytes_list(l:List (List UInt8)):∃ ps:List ByteArray,l=ps.map (fun p=>p.data.toList):=
 ⟨l.map (fun x=>⟨x.toArray⟩),by
  induction l with
  | nil=>rfl
  | cons a l ih=>simp only[List.map_cons];rw[<-ih]⟩
theorem piece_size{s sep:ByteArray}{ps:List ByteArray}(hps:cutB s sep=ps.map (fun p=>p.data.toList))(p:ByteArray)(hp:p∈ps):p.size<=s.size:=by
 have:=M.cutS_mem s.data.toList sep.data.toList p.data.toList (by show _∈cutB s sep;rw[hps];exact List.mem_map.mpr ⟨p,hp,rfl⟩)
 simpa using this
theorem strV_of(s:ByteArray):Value.string s=strV s.data.toList:=rfl
def chCells(c:M.Ch):List Value:=[strV c.name,strV c.sign,strV c.ver]
def chsCells(l:List M.Ch):List Value:=l.flatMap chCells
theorem chsCells_len(l:List M.Ch):(chsCells l).length=l.length*3:=by
 induction l with
 | nil=>rfl
 | cons c l ih=>simp only[chsCells,List.flatMap_cons,List.length_append] at ih ⊢;rw[ih];simp[chCells];omega
theorem chsCells_snoc(l:List M.Ch)(c:M.Ch):chsCells (l++[c])=chsCells l++[strV c.name,strV c.sign,strV c.ver]:=by
 simp[chsCells,chCells]
theorem allS_snoc{α:Type}(f:List UInt8->Option α):∀ (l:List (List UInt8)) (r:List α) (s:List UInt8),M.allS f l=some r->M.allS f (l++[s])=(f s).map (fun c=>r++[c])
 | [],r,s,h=>by
  simp only[M.allS,Option.some.injEq] at h
  subst h
  simp only[List.nil_append,M.allS]
  cases f s <;> rfl
 | x :: l,r,s,h=>by
  simp only[M.allS] at h
  simp only[List.cons_append,M.allS]
  cases hx:f x with
  | none=>rw[hx] at h;cases h
  | some c=>
   rw[hx] at h
   cases hl:M.allS f l with
   | none=>rw[hl] at h;cases h
   | some t=>
    rw[hl] at h
    cases h
    rw[allS_snoc f l t s hl]
    cases f s <;> rfl
theorem allS_stop{α:Type}(f:List UInt8->Option α):∀ (l m:List (List UInt8)),M.allS f l=none->M.allS f (l++m)=none
 | [],m,h=>by simp[M.allS] at h
 | x :: l,m,h=>by
  simp only[M.allS] at h
  simp only[List.cons_append,M.allS]
  cases hx:f x with
  | none=>rfl
  | some c=>
   rw[hx] at h
   cases hl:M.allS f l with
   | none=>rw[allS_stop f l m hl]
   | some t=>rw[hl] at h;cases h
theorem own_below{w w':World}{B e size n:Nat}{v:Value}{xs:List Value}(h:w.ownsRow B e size v n xs)(hb:Below w.heap.size w w'):w'.ownsRow B e size v n xs:=
 h.kept (row:=none) ⟨hb.os,hb.tape,hb.output,hb.size,fun k hk _=>hb.block k hk⟩ (by cases hv:v.ownBlock with|none=>exact .inl rfl|some k=>exact .inr (by simp))
theorem own_form{w:World}{B e size n:Nat}{v:Value}{xs:List Value}(h:w.ownsRow B e size v n xs):∃ a cap,v=.slice a n cap:=by
 obtain⟨_,⟨rfl,rfl⟩|⟨g,cap,cur,rfl,_⟩⟩:=h
 ·exact⟨_,_,rfl⟩
 ·exact⟨_,_,rfl⟩
theorem own_base{w:World}{B B' e size n:Nat}{v:Value}{xs:List Value}(h:w.ownsRow B e size v n xs)(hB:B'<=B):w.ownsRow B' e size v n xs:=by
 obtain⟨hl,h|⟨g,cap,cur,h1,h2,h3⟩⟩:=h
 ·exact⟨hl,.inl h⟩
 ·exact⟨hl,.inr ⟨g,cap,cur,h1,by omega,h3⟩⟩
theorem new_cells(w:World)(xs:List Value)(t:TypeId):∀ j u,xs[j]? = some u->(w.alloc (.cells xs.toArray t)).cell? ((⟨w.heap.size,0,none⟩:Addr).add j)=some u:=by
 intro j u hj
 have e:(w.alloc (.cells xs.toArray t)).heap[w.heap.size]? = some (.cells xs.toArray t):=(MapKept.heap_alloc w _).1
 have e2:((⟨w.heap.size,0,none⟩:Addr).add j)=⟨w.heap.size,j,none⟩:=by unfold Addr.add;by_cases h:j=0 <;> simp[h]
 rw[e2]
 simp only[World.cell?,e]
 simpa using hj
def StrBlk(w:World)(g:Nat):Prop:=∃ c f,w.heap[g]? = some (.cells c 9 f)
def CellS(w w':World)(g o:Nat):Prop:=w'.cell? ⟨g,o,none⟩=w.cell? ⟨g,o,none⟩/\(StrBlk w' g->StrBlk w g)
theorem CellS.trans{w w1 w2:World}{g o:Nat}(h:CellS w1 w2 g o)(k:CellS w w1 g o):CellS w w2 g o:=⟨h.1.trans k.1,fun e=>k.2 (h.2 e)⟩
theorem blockS{w w':World}{g o:Nat}(h:w'.heap[g]? = w.heap[g]?):CellS w w' g o:=⟨World.cell?_of_block (a:=⟨g,o,none⟩) h,fun ⟨c,f,e⟩=>⟨c,f,h.symm.trans e⟩⟩
theorem belowS{B:Nat}{w w':World}{g o:Nat}(h:Below B w w')(hg:g<B):CellS w w' g o:=blockS (h.block g hg)
theorem setS{w:World}{b o:Nat}{v:Value}{g o':Nat}(h:g≠b):CellS w (w.setCell ⟨b,o,none⟩ v) g o':=blockS (Below.heap_setCell _ _ _ _ h)
def RowIn(w:World)(lo hi:Nat)(v:Value)(n:Nat)(xs:List Value):Prop:=
 (v=.slice none 0 0/\n=0/\xs=[])\/∃ g cap,v=.slice (some ⟨g,0,none⟩) n cap/\n<=cap/\lo<=g/\(g<hi/\(StrBlk w g->xs.length=n))/\∀ j u,xs[j]? = some u->w.cell? ⟨g,j,none⟩=some u
theorem RowIn.form{w:World}{lo hi n:Nat}{v:Value}{xs:List Value}(h:RowIn w lo hi v n xs):∃ a cap,v=.slice a n cap:=by
 obtain⟨rfl,rfl,rfl⟩|⟨g,cap,rfl,_⟩:=h
 ·exact⟨_,_,rfl⟩
 ·exact⟨_,_,rfl⟩
theorem RowIn.keep{w w':World}{lo hi n:Nat}{v:Value}{xs:List Value}(h:RowIn w lo hi v n xs)(hk:∀ g o,lo<=g->g<hi->CellS w w' g o):RowIn w' lo hi v n xs:=by
 obtain h|⟨g,cap,h1,h2,h3,h4,h5⟩:=h
 ·exact .inl h
 ·exact .inr ⟨g,cap,h1,h2,h3,⟨h4.1,fun e=>h4.2 ((hk g 0 h3 h4.1).2 e)⟩,fun j u hj=>(hk g j h3 h4.1).1.trans (h5 j u hj)⟩
theorem RowIn.wide{w:World}{lo hi lo' hi' n:Nat}{v:Value}{xs:List Value}(h:RowIn w lo hi v n xs)(h1:lo'<=lo)(h2:hi<=hi'):RowIn w lo' hi' v n xs:=by
 obtain h|⟨g,cap,a,b,c,d,e⟩:=h
 ·exact .inl h
 ·exact .inr ⟨g,cap,a,b,by omega,⟨by omega,d.2⟩,e⟩
theorem RowIn.own{w:World}{B e size n:Nat}{v:Value}{xs:List Value}(h:w.ownsRow B e size v n xs)(ht:e=9->size=1:=by decide):RowIn w B w.heap.size v n xs:=by
 have hlt:=h.lt
 have hce:=fun g hg=>h.cells (g:=g) hg
 obtain⟨hl,⟨rfl,rfl⟩|⟨g,cap,cur,rfl,h2,h3,h4,_⟩⟩:=h
 ·exact .inl ⟨rfl,rfl,List.length_eq_zero_iff.mp (by omega)⟩
 ·refine .inr ⟨g,cap,rfl,h4,h2,⟨(hlt g rfl).2,fun ⟨c,f,he⟩=>?_⟩,fun j u hj=>?_⟩
  ·rw[h3] at he
   injection he with he
   injection he with _ he
   rw[hl,ht he,Nat.mul_one]
  have:=hce g rfl j u hj
  have e2:((⟨g,0,none⟩:Addr).add j)=⟨g,j,none⟩:=by unfold Addr.add;by_cases h:j=0 <;> simp[h]
  rwa [e2] at this
def NeedsIn(w:World)(lo hi:Nat)(v:Value)(l:List (List M.Ch)):Prop:=
 ∃ vs:List Value,RowIn w lo hi v l.length vs/\vs.length=l.length/\∀ (i:Nat) x,l[i]? = some x->∃ u,vs[i]? = some u/\RowIn w lo hi u x.length (chsCells x)
theorem NeedsIn.keep{w w':World}{lo hi:Nat}{v:Value}{l:List (List M.Ch)}(h:NeedsIn w lo hi v l)(hk:∀ g o,lo<=g->g<hi->CellS w w' g o):NeedsIn w' lo hi v l:=by
 obtain⟨vs,h1,h2,h3⟩:=h
 exact⟨vs,h1.keep hk,h2,fun i x hx=>by obtain⟨u,a,b⟩:=h3 i x hx;exact⟨u,a,b.keep hk⟩⟩
theorem NeedsIn.nil(w:World)(lo hi:Nat):NeedsIn w lo hi (.slice none 0 0) []:=⟨[],.inl ⟨rfl,rfl,rfl⟩,rfl,fun i x h=>by simp at h⟩
theorem NeedsIn.form{w:World}{lo hi:Nat}{v:Value}{l:List (List M.Ch)}(h:NeedsIn w lo hi v l):∃ a cap,v=.slice a l.length cap:=by
 obtain⟨vs,h1,_⟩:=h;exact h1.form
theorem NeedsIn.wide{w:World}{lo hi lo' hi':Nat}{v:Value}{l:List (List M.Ch)}(h:NeedsIn w lo hi v l)(h1:lo'<=lo)(h2:hi<=hi'):NeedsIn w lo' hi' v l:=by
 obtain⟨vs,a,b,c⟩:=h
 exact⟨vs,a.wide h1 h2,b,fun i x hx=>by obtain⟨u,d,e⟩:=c i x hx;exact⟨u,d,e.wide h1 h2⟩⟩
def flCells(f:M.Fl):List Value:=[strV f.path,strV f.content]
def flsCells(l:List M.Fl):List Value:=l.flatMap flCells
theorem flsCells_snoc(l:List M.Fl)(f:M.Fl):flsCells (l++[f])=flsCells l++[strV f.path,strV f.content]:=by simp[flsCells,flCells]
theorem flsCells_len(l:List M.Fl):(flsCells l).length=l.length*2:=by
 induction l with
 | nil=>rfl
 | cons c l ih=>simp only[flsCells,List.flatMap_cons,List.length_append] at ih ⊢;rw[ih];simp[flCells];omega
structure PAt (w:World) (pb B:Nat) (p:M.Pk) (nv bv fv:Value):Prop where
 c0:w.cell? ⟨pb,0,none⟩=some (.string ⟨p.name.toArray⟩)
 c1:w.cell? ⟨pb,1,none⟩=some (.string ⟨p.ver.toArray⟩)
 c2:w.cell? ⟨pb,2,none⟩=some nv
 c3:w.cell? ⟨pb,3,none⟩=some bv
 c4:w.cell? ⟨pb,4,none⟩=some fv
 fz:∀ o,w.frozen? ⟨pb,o,none⟩=false
 lt:pb<B
 le:B<=w.heap.size
 needs:NeedsIn w (pb+1) B nv p.needs
 bars:RowIn w (pb+1) B bv p.bars.length (chsCells p.bars)
 files:w.ownsRow B 188 2 fv p.files.length (flsCells p.files)
 nnil:p.needs=[]->nv=.slice none 0 0
 fnil:p.files=[]->fv=.slice none 0 0
theorem PAt.below{w w':World}{pb B:Nat}{p:M.Pk}{nv bv fv:Value}(h:PAt w pb B p nv bv fv)(hb:Below w.heap.size w w'):PAt w' pb B p nv bv fv:=by
 have hpb:pb<w.heap.size:=Nat.lt_of_lt_of_le h.lt h.le
 have k:∀ o,w'.cell? ⟨pb,o,none⟩=w.cell? ⟨pb,o,none⟩:=fun o=>hb.cell (p:=⟨pb,o,none⟩) hpb
 have kk:∀ g o,pb+1<=g->g<B->CellS w w' g o:=fun g o _ hg=>belowS hb (Nat.lt_of_lt_of_le hg h.le)
 exact⟨(k 0).trans h.c0,(k 1).trans h.c1,(k 2).trans h.c2,(k 3).trans h.c3,(k 4).trans h.c4,fun o=>(hb.frozen (p:=⟨pb,o,none⟩) hpb).trans (h.fz o),h.lt,Nat.le_trans h.le hb.size,h.needs.keep kk,h.bars.keep kk,own_below h.files hb,h.nnil,h.fnil⟩
theorem size_set(w:World)(a:Addr)(v:Value):(w.setCell a v).heap.size=w.heap.size:=by simp[World.setCell]
theorem cell_set_block(w:World)(b o:Nat)(v:Value)(g o':Nat)(h:g≠b):(w.setCell ⟨b,o,none⟩ v).cell? ⟨g,o',none⟩=w.cell? ⟨g,o',none⟩:=
 World.cell?_setCell_other _ _ _ _ (by intro e;cases e;exact h rfl)
theorem cell_set_off(w:World)(b o:Nat)(v:Value)(o':Nat)(h:o'≠o):(w.setCell ⟨b,o,none⟩ v).cell? ⟨b,o',none⟩=w.cell? ⟨b,o',none⟩:=
 World.cell?_setCell_other _ _ _ _ (by intro e;cases e;exact h rfl)
def needsT:ByteArray:=⟨#[110,101,101,100,115,32]⟩
def barsT:ByteArray:=⟨#[98,97,114,115,32]⟩
def fileT:ByteArray:=⟨#[102,105,108,101,32]⟩
theorem fl_cell{l:List M.Fl}{k:Nat}(hk:k<l.length):(flsCells l)[2*k]? = some (strV l[k].path):=by
 induction l generalizing k with
 | nil=>simp at hk
 | cons f l ih=>
  cases k with
  | zero=>simp[flsCells,flCells]
  | succ k=>
   have:=ih (k:=k) (by simpa using hk)
   simp only[flsCells,List.flatMap_cons,flCells] at this ⊢
   rw[show 2*(k+1)=2*k+1+1 by omega]
   simpa using this
theorem grown_keep{wx w2:World}{row:Option Nat}(hg:wx.grownBy w2 row)(b:Nat)(hb:b<wx.heap.size)(hne:some b≠row):
 ∀ o,w2.cell? ⟨b,o,none⟩=wx.cell? ⟨b,o,none⟩/\w2.frozen? ⟨b,o,none⟩=wx.frozen? ⟨b,o,none⟩:=fun o=>
 ⟨World.cell?_of_block (w:=wx) (a:=⟨b,o,none⟩) (hg.block b hb hne),World.frozen?_of_block (w:=wx) (a:=⟨b,o,none⟩) (hg.block b hb hne)⟩
theorem own_apart{w:World}{B B' e e' size size' n n':Nat}{v u:Value}{xs ys:List Value}(h:w.ownsRow B e size v n xs)(k:w.ownsRow B' e' size' u n' ys)(he:e≠e'):u.ownBlock=none\/u.ownBlock≠v.ownBlock:=by
 obtain⟨_,⟨rfl,_⟩|⟨g,cap,cur,rfl,_,hg,_⟩⟩:=k
 ·exact .inl rfl
 ·right
  obtain⟨_,⟨rfl,_⟩|⟨g',cap',cur',rfl,_,hg',_⟩⟩:=h
  ·simp[Value.ownBlock]
  ·intro e1
   have e2:g=g':=by simpa [Value.ownBlock] using e1
   subst e2
   rw[hg] at hg'
   simp at hg'
   exact he hg'.2.symm
theorem choicesS_len{s sep:List UInt8}{m:Nat}{l:List M.Ch}(h:M.choicesS s sep m=some l):l.length<=m:=by
 unfold M.choicesS at h
 split at h
 ·cases h
 ·split at h
  ·cases h;assumption
  ·cases h
namespace M
def linesS:List (List UInt8)->Nat->Pk->Sum Nat Pk
 | [],_,p=>.inr p
 | l :: r,k,p=>match lineS p k l with
  | none=>.inl (k+1)
  | some q=>linesS r (k+1) q
def emptyPk:Pk:=⟨[],[],[],[],[]⟩
def swapAt{α:Type}(l:List α)(k:Nat):List α:=match l[k]?,l[k+1]? with
 | some x,some y=>(l.set (k+1) x).set k y
 | _,_=>l
def bub:Nat->List Fl->List Fl
 | 0,l=>l
 | k+1,l=>match l[k]?,l[k+1]? with
  | some x,some y=>if Op.bytesLess y.path x.path=true then bub k (swapAt l k) else l
  | _,_=>l
def srt:Nat->Nat->List Fl->List Fl
 | 0,_,l=>l
 | m+1,i,l=>if i<l.length then srt m (i+1) (bub i l) else l
def sortF(l:List Fl):List Fl:=srt l.length 1 l
def trimS(s:List UInt8):List UInt8:=if s.getLast? = some 10 then s.dropLast else s
def readS(s:List UInt8):Sum Nat Pk:=
 if 300<s.length then .inl 0
 else match linesS (cutS (trimS s) [10]) 0 emptyPk with
  | .inl n=>.inl n
  | .inr p=>.inr { p with files:=sortF p.files }
theorem swapAt_len{α:Type}(l:List α)(k:Nat):(swapAt l k).length=l.length:=by unfold swapAt;split <;> simp
theorem bub_len:∀ (k:Nat) (l:List Fl),(bub k l).length=l.length
 | 0,l=>rfl
 | k+1,l=>by
  unfold bub
  split
  ·split
   ·rw[bub_len k,swapAt_len]
   ·rfl
  ·rfl
def chText(c:Ch):List UInt8:=if c.sign=[] then c.name else c.name++[32,40]++c.sign++[32]++c.ver++[41]
def joinS(sep:List UInt8):List (List UInt8)->List UInt8
 | []=>[]
 | [x]=>x
 | x :: y :: r=>x++sep++joinS sep (y :: r)
def printedS(sep:List UInt8)(l:List Ch):List UInt8:=joinS sep (l.map chText)
def needsText(l:List (List Ch)):List UInt8:=if l=[] then [] else [10,110,101,101,100,115,32]++joinS [44,32] (l.map (printedS [32,124,32]))
def barsText(l:List Ch):List UInt8:=if l=[] then [] else [10,98,97,114,115,32]++printedS [44,32] l
def fileText(f:Fl):List UInt8:=[10,102,105,108,101,32]++f.path++[61]++f.content
def printS(p:Pk):List UInt8:=[112,97,99,107,97,103,101,32]++p.name++[32]++p.ver++needsText p.needs++barsText p.bars++p.files.flatMap fileText
end M
theorem fl_cell2{l:List M.Fl}{k:Nat}(hk:k<l.length):(flsCells l)[2*k+1]? = some (strV l[k].content):=by
 induction l generalizing k with
 | nil=>simp at hk
 | cons f l ih=>
  cases k with
  | zero=>simp[flsCells,flCells]
  | succ k=>
   have:=ih (k:=k) (by simpa using hk)
   simp only[flsCells,List.flatMap_cons,flCells] at this ⊢
   rw[show 2*(k+1)+1=2*k+1+1+1 by omega]
   simpa using this
def PkVal(w:World)(p:M.Pk)(v:Value):Prop:=
 ∃ nv bv fv,v=.agg #[.string ⟨p.name.toArray⟩,.string ⟨p.ver.toArray⟩,nv,bv,fv]/\NeedsIn w 0 w.heap.size nv p.needs/\RowIn w 0 w.heap.size bv p.bars.length (chsCells p.bars)/\RowIn w 0 w.heap.size fv p.files.length (flsCells p.files)
def PkFrom(lo:Nat)(w:World)(p:M.Pk)(v:Value):Prop:=
 ∃ nv bv fv,v=.agg #[.string ⟨p.name.toArray⟩,.string ⟨p.ver.toArray⟩,nv,bv,fv]/\NeedsIn w lo w.heap.size nv p.needs/\RowIn w lo w.heap.size bv p.bars.length (chsCells p.bars)/\RowIn w lo w.heap.size fv p.files.length (flsCells p.files)
theorem PkFrom.val{lo:Nat}{w:World}{p:M.Pk}{v:Value}(h:PkFrom lo w p v):PkVal w p v:=by
 obtain⟨nv,bv,fv,h1,h2,h3,h4⟩:=h
 exact⟨nv,bv,fv,h1,h2.wide (Nat.zero_le _) ler,h3.wide (Nat.zero_le _) ler,h4.wide (Nat.zero_le _) ler⟩
def readB(s:ByteArray):Sum Nat M.Pk:=M.readS s.data.toList
theorem preL_split{ps:List ByteArray}{k:Nat}(hk:k<ps.length):ps.map (fun p=>p.data.toList)=(ps.take k).map (fun p=>p.data.toList)++ps[k].data.toList :: (ps.drop (k+1)).map (fun p=>p.data.toList):=by
 have e1:ps=ps.take k++ps[k] :: ps.drop (k+1):=by rw[<-List.drop_eq_getElem_cons hk,List.take_append_drop]
 have e2:=congrArg (List.map (fun p:ByteArray=>p.data.toList)) e1
 rw[List.map_append,List.map_cons] at e2
 exact e2
theorem new_at(w:World)(xs:List Value)(t:TypeId)(j:Nat)(u:Value)(hj:xs[j]? = some u):(w.alloc (.cells xs.toArray t)).cell? ⟨w.heap.size,j,none⟩=some u:=by
 have:=new_cells w xs t j u hj
 have e2:((⟨w.heap.size,0,none⟩:Addr).add j)=⟨w.heap.size,j,none⟩:=by unfold Addr.add;by_cases h:j=0 <;> simp[h]
 rwa [e2] at this
theorem cat_toList(a b:ByteArray):(a++b).data.toList=a.data.toList++b.data.toList:=by rw[ByteArray.data_append];simp
theorem ch_cell:∀ {l:List M.Ch} {k:Nat} (hk:k<l.length),(chsCells l)[k*3]? = some (strV l[k].name)/\(chsCells l)[k*3+1]? = some (strV l[k].sign)/\(chsCells l)[k*3+2]? = some (strV l[k].ver)
 | [],k,hk=>by simp at hk
 | c :: l,0,hk=>by simp[chsCells,chCells]
 | c :: l,k+1,hk=>by
  have ih:=ch_cell (l:=l) (k:=k) (by simpa using hk)
  have e:chsCells (c :: l)=strV c.name :: strV c.sign :: strV c.ver :: chsCells l:=rfl
  rw[e,show (k+1)*3=k*3+1+1+1 by omega]
  exact ih
def ShortC(l:List M.Ch):Prop:=l.length<=1000/\∀ c∈l,c.name.length<=8000/\c.sign.length<=8000/\c.ver.length<=8000
structure ShortP (p:M.Pk):Prop where
 name:p.name.length<=8000
 ver:p.ver.length<=8000
 needn:p.needs.length<=1000
 needs:∀ l∈p.needs,ShortC l
 bars:ShortC p.bars
 filen:p.files.length<=1000
 files:∀ f∈p.files,f.path.length<=8000/\f.content.length<=8000
namespace M
def headS(p:Pk):List UInt8:=[112,97,99,107,97,103,101,32]++p.name++[32]++p.ver
end M
theorem NeedsIn.at{w:World}{hi:Nat}{a:Option Addr}{n c:Nat}{l:List (List M.Ch)}(h:NeedsIn w 0 hi (.slice a n c) l)(k:Nat)(hk:k<l.length):
 ∃ g au cu,a=some ⟨g,0,none⟩/\g<hi/\w.cell? ⟨g,k,none⟩=some (.slice au l[k].length cu)/\RowIn w 0 hi (.slice au l[k].length cu) l[k].length (chsCells l[k]):=by
 obtain⟨vs,h1,h2,h3⟩:=h
 obtain⟨u,hu,hr⟩:=h3 k _ (List.getElem?_eq_getElem hk)
 obtain⟨au,cu,e⟩:=hr.form
 obtain⟨_,h0,_⟩|⟨g,cap,e1,_,_,hg,hc⟩:=h1
 ·omega
 ·cases e1
  exact⟨g,au,cu,rfl,hg.1,by rw[hc k u hu,e],by rw[<-e];exact hr⟩
theorem RowIn.cellAt{w:World}{hi:Nat}{a:Option Addr}{n c m:Nat}{xs:List Value}(h:RowIn w 0 hi (.slice a n c) m xs)(hm:0<m):
 ∃ g,a=some ⟨g,0,none⟩/\g<hi/\n<=c/\∀ j u,xs[j]? = some u->w.cell? ⟨g,j,none⟩=some u:=by
 obtain⟨_,h0,_⟩|⟨g,cap,e1,e2,_,hg,hc⟩:=h
 ·omega
 ·cases e1
  exact⟨g,rfl,hg.1,e2,hc⟩
theorem step_append_eq{P:Program}{w:World}{ops:Array Oper}{o:Oper}{a:Act}{K:Act->World->Prop}{Q:Exit->Act->World->Prop}{E:Prop}(hgd:o.guard=none)(s x:Operand)(t:TypeId)
 (hop:o.op=Op.call { callee:=Callee.builtin Builtin.append,args:=#[s,x],argTypes:=#[t,t] }) (v u v':Value) (w':World) (hs:a.eval s=v) (hx:a.eval x=u) (hrun:(Builtin.append_ #[t,t] o.type #[v,u]).run P w=.ok v' w')
 (hK:K (a.put o.dst v') w'):if Region.wanted o (yielded ops a.tmps)=true then Oper.wp P o a w K Q else E:=by
 rw[if_pos (by simp[Region.wanted,hgd])]
 unfold Oper.wp
 simp[execOp,hop,resolve,invoke,builtin,hs,hx,hrun,Result.andThen]
 exact hK
end Go.Proofs.YtgnfknjopafngabGreatDoor
