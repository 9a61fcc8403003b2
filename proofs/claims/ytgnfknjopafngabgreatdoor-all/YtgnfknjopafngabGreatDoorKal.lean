import Derived.Test.YtgnfknjopafngabGreatDoorKak
import Derived.Test.YtgnfknjopafngabGreatDoorKaj
set_option maxRecDepth 100000
set_option maxHeartbeats 2000000
namespace Go.Proofs.YtgnfknjopafngabGreatDoor
open Go
def Zb8{α:Type}(f:List UInt8->Option α)(most:Nat)(s sep:List UInt8):Option (List α):=if (M.Zcn s sep).length<=most then M.Zfg f (M.Zcn s sep) else none
theorem Zn0{α:Type}{f:List UInt8->Option α}:∀ {l:List (List UInt8)} {r:List α},M.Zfg f l=some r->r.length=l.length
 | [],r,h=>by simp only[M.Zfg,Option.some.injEq] at h;subst h;rfl
 | s :: l,r,h=>by
  simp only[M.Zfg] at h
  split at h
  ·cases h
  ·split at h
   ·cases h
   ·rename_i r' hr
    cases h
    simp[Zn0 hr]
theorem Z0q{α:Type}(f:List UInt8->Option α)(most:Nat)(s sep:List UInt8):Zb8 f most s sep=(match M.Zfg f (M.Zcn s sep) with|none=>none|some l=>if l.length<=most then some l else none):=by
 unfold Zb8
 cases h:M.Zfg f (M.Zcn s sep) with
 | none=>simp
 | some l=>
  have:=Zn0 h
  simp only[<-this]
theorem Zrh(most:Nat)(s sep:List UInt8):Zb8 Zbo most s sep=M.Zbz s sep most:=by
 have e:Zbo=M.Zc4:=funext Z2i
 rw[Z0q,e]
 unfold M.Zbz
 cases M.Zfg M.Zc4 (M.Zcn s sep) <;> rfl
theorem Z43(s sep:List UInt8):Zb8 (fun t=>Zb8 Zbo 3 t [32,124,32]) 3 s sep=(match M.Zfg M.Zf2 (M.Zcn s sep) with|none=>none|some l=>if l.length<=3 then some l else none):=by
 have e:(fun t=>Zb8 Zbo 3 t [32,124,32])=M.Zf2:=funext fun t=>Zrh 3 t [32,124,32]
 rw[Z0q,e]
 cases M.Zfg M.Zf2 (M.Zcn s sep) <;> rfl
def Zay(b:List UInt8):List (List UInt8):=(List.range b.length).flatMap fun i=>if Lib.hasPrefix (b.drop i) [47]=true then [b.take i] else []
theorem Zss(a b:List UInt8):M.over a b=(Zay b).contains a:=by
 rw[Bool.eq_iff_iff,M.over,Zdp,List.contains_iff_mem]
 unfold Zay
 rw[List.mem_flatMap]
 constructor
 ·intro h
  obtain⟨r,rfl⟩:∃ r,b=(a++[47])++r:=⟨_,Zel h⟩
  refine⟨a.length,by simp,?_⟩
  rw[if_pos (by simp[Lib.hasPrefix,List.isPrefixOf])]
  simp
 ·rintro ⟨i,hi,h⟩
  split at h
  ·rename_i hp
   simp only[List.mem_singleton] at h
   subst h
   unfold Lib.hasPrefix
   rw[List.isPrefixOf_iff_prefix]
   have e:=Zel hp
   refine⟨(b.drop i).drop 1,?_⟩
   rw[List.append_assoc]
   conv=>rhs;rw[<-List.take_append_drop i b]
   rw[show ([47]:List UInt8).length=1 from rfl] at e
   rw[<-e]
  ·simp at h
def Zfq(a b:List UInt8):Bool:=a == b || (Zay b).contains a || (Zay a).contains b
theorem Z9a(f g:M.Fl):M.apart f g = !Zfq f.path g.path:=by
 unfold M.apart Zfq
 rw[Zss,Zss]
 cases (Zay g.path).contains f.path <;> cases (Zay f.path).contains g.path <;> cases (f.path == g.path) <;> rfl
def Zp8(l:List M.Fl)(t:List UInt8):Option (List M.Fl):=match Zpo t with
 | none=>none
 | some f=>if l.length<4/\l.any (fun g=>Zfq f.path g.path)=false then some (l++[f]) else none
def Zef:List (List UInt8)->Nat->M.Pk->Sum Nat M.Pk
 | [],_,p=>.inr p
 | s :: r,k,p=>if Lib.hasPrefix s M.Zfw=true then (match Zp8 p.files (s.drop 5) with
  | none=>.inl (k+1)
  | some l=>Zef r (k+1) { p with files:=l })
  else .inl (k+1)
def Zm8(ls:List (List UInt8))(k:Nat)(p:M.Pk):Sum Nat M.Pk:=match ls with
 | []=>.inr p
 | s :: r=>if Lib.hasPrefix s M.Zcr=true then (match Zb8 Zbo 3 (s.drop 5) [44,32] with
  | none=>.inl (k+1)
  | some l=>Zef r (k+1) { p with bars:=l })
  else Zef (s :: r) k p
def Zim(ls:List (List UInt8))(k:Nat)(p:M.Pk):Sum Nat M.Pk:=match ls with
 | []=>.inr p
 | s :: r=>if Lib.hasPrefix s M.Zbi=true then (match Zb8 (fun t=>Zb8 Zbo 3 t [32,124,32]) 3 (s.drop 6) [44,32] with
  | none=>.inl (k+1)
  | some l=>Zm8 r (k+1) { p with needs:=l })
  else Zm8 (s :: r) k p
def Zc1(ls:List (List UInt8))(p:M.Pk):Sum Nat M.Pk:=match ls with
 | []=>.inl 1
 | s :: r=>if Lib.hasPrefix s Zk0=true then (match Zg8 (s.drop 8) with
  | none=>.inl 1
  | some (a,b)=>Zim r 1 { p with name:=a,ver:=b })
  else .inl 1
theorem Z8o(p:M.Pk)(k:Nat)(s:List UInt8)(hk:0<k)(h:Lib.hasPrefix s M.Zfw=true):M.Zbw p k s=(match Zp8 p.files (s.drop 5) with|none=>none|some l=>some { p with files:=l }):=by
 have hb:=Zdp s M.Zfw
 rw[h] at hb
 have h1:M.begins s M.Zbi=false:=by
  cases e:M.begins s M.Zbi with
  | false=>rfl
  | true=>
   rw[Zdp] at e
   obtain⟨r1,e1⟩:∃ r,s=M.Zfw++r:=⟨_,Zel h⟩
   obtain⟨r2,e2⟩:∃ r,s=M.Zbi++r:=⟨_,Zel e⟩
   rw[e1] at e2;simp[M.Zfw,M.Zbi] at e2
 have h2:M.begins s M.Zcr=false:=by
  cases e:M.begins s M.Zcr with
  | false=>rfl
  | true=>
   rw[Zdp] at e
   obtain⟨r1,e1⟩:∃ r,s=M.Zfw++r:=⟨_,Zel h⟩
   obtain⟨r2,e2⟩:∃ r,s=M.Zcr++r:=⟨_,Zel e⟩
   rw[e1] at e2;simp[M.Zfw,M.Zcr] at e2
 unfold M.Zbw Zp8
 rw[if_neg (by omega),if_neg (by rw[h1];simp),if_neg (by rw[h2];simp),<-Z9o]
 by_cases h4:p.files.length<4
 ·rw[if_pos ⟨hb,h4⟩]
  cases Zpo (s.drop 5) with
  | none=>rfl
  | some f=>
   have e:p.files.all (M.apart f) = !(p.files.any (fun g=>Zfq f.path g.path)):=by
    rw[show M.apart f=fun g=>!Zfq f.path g.path from funext (Z9a f)]
    rw[List.not_any_eq_all_not]
   simp only[e]
   cases hc:p.files.any (fun g=>Zfq f.path g.path) with
   | false=>simp[h4]
   | true=>simp
 ·rw[if_neg (fun h=>h4 h.2)]
  cases Zpo (s.drop 5) with
  | none=>rfl
  | some f=>simp[h4]
theorem Yam{p:M.Pk}{k:Nat}{s:List UInt8}(hk:0<k)(h1:Lib.hasPrefix s M.Zfw=false)(h2:Lib.hasPrefix s M.Zbi=false\/0<p.needs.length+p.bars.length+p.files.length)
 (h3:Lib.hasPrefix s M.Zcr=false\/0<p.bars.length+p.files.length):M.Zbw p k s=none:=by
 unfold M.Zbw
 rw[Zdp,Zdp,Zdp,if_neg (by omega),if_neg,if_neg,if_neg]
 ·rw[h1];simp
 ·rintro ⟨a,b⟩
  rcases h3 with h|h
  ·rw[h] at a;cases a
  ·omega
 ·rintro ⟨a,b⟩
  rcases h2 with h|h
  ·rw[h] at a;cases a
  ·omega
theorem Z71{l r:List M.Fl}{t:List UInt8}(h:Zp8 l t=some r):0<r.length:=by
 unfold Zp8 at h
 split at h
 ·cases h
 ·split at h
  ·cases h;simp
  ·cases h
theorem Zsa:∀ (ls:List (List UInt8)) (k:Nat) (p:M.Pk),0<k->(∀ s r,ls=s :: r->(Lib.hasPrefix s M.Zbi=false\/0<p.needs.length+p.bars.length+p.files.length)/\(Lib.hasPrefix s M.Zcr=false\/0<p.bars.length+p.files.length))->
 Zef ls k p=M.Zba ls k p
 | [],k,p,_,_=>rfl
 | s :: r,k,p,hk,h=>by
  simp only[Zef,M.Zba]
  by_cases hf:Lib.hasPrefix s M.Zfw=true
  ·rw[if_pos hf,Z8o p k s hk hf]
   cases ha:Zp8 p.files (s.drop 5) with
   | none=>rfl
   | some l=>
    have:=Z71 ha
    exact Zsa r (k+1) _ (by omega) (fun s' r' _=>⟨.inr (by show 0 < _ + _ + l.length;omega),.inr (by show 0 < _ + l.length;omega)⟩)
  ·have hf':Lib.hasPrefix s M.Zfw=false:=by simpa using hf
   rw[if_neg hf,Yam hk hf' (h s r rfl).1 (h s r rfl).2]
theorem Z8t{s:List UInt8}{a b:UInt8}{t r:List UInt8}(h:Lib.hasPrefix s (a :: t)=true)(hab:a≠b):Lib.hasPrefix s (b :: r)=false:=by
 cases k:Lib.hasPrefix s (b :: r) with
 | false=>rfl
 | true=>
  obtain⟨r1,e1⟩:∃ r,s=a :: t++r:=⟨_,Zel h⟩
  obtain⟨r2,e2⟩:∃ r',s=b :: r++r':=⟨_,Zel k⟩
  rw[e1] at e2
  simp at e2
  exact absurd e2.1 hab
theorem Zoq{α:Type}{f:List UInt8->Option α}{m:Nat}{s sep:List UInt8}{l:List α}(h:Zb8 f m s sep=some l):0<l.length/\l.length<=m:=by
 unfold Zb8 at h
 split at h
 ·rename_i hm
  rw[Zn0 h]
  exact⟨(M.Zbx s sep).1,hm⟩
 ·cases h
theorem Z6f(ls:List (List UInt8))(k:Nat)(p:M.Pk)(hk:0<k)(hp:p.bars.length+p.files.length=0)
 (h:∀ s r,ls=s :: r->Lib.hasPrefix s M.Zbi=false\/0<p.needs.length):Zm8 ls k p=M.Zba ls k p:=by
 cases ls with
 | nil=>rfl
 | cons s r=>
  unfold Zm8
  by_cases hb:Lib.hasPrefix s M.Zcr=true
  ·have hn:Lib.hasPrefix s M.Zbi=false:=Z8t hb (by decide)
   simp only[if_pos hb,M.Zba]
   have e:M.Zbw p k s=(match Zb8 Zbo 3 (s.drop 5) [44,32] with|none=>none|some l=>some { p with bars:=l }):=by
    unfold M.Zbw
    rw[Zdp,Zdp,if_neg (by omega),if_neg (by rw[hn];simp),if_pos ⟨hb,hp⟩,Zrh]
    cases M.Zbz (s.drop 5) [44,32] 3 <;> rfl
   rw[e]
   cases hl:Zb8 Zbo 3 (s.drop 5) [44,32] with
   | none=>rfl
   | some l=>
    have:=(Zoq hl).1
    exact Zsa r (k+1) _ (by omega) (fun s' r' _=>⟨.inr (by show 0 < _ + l.length + _;omega),.inr (by show 0<l.length + _;omega)⟩)
  ·have hb':Lib.hasPrefix s M.Zcr=false:=by simpa using hb
   simp only[if_neg hb]
   refine Zsa (s :: r) k p hk (fun s' r' e=>?_)
   simp only[List.cons.injEq] at e
   obtain⟨rfl,_⟩:=e
   refine⟨?_,.inl hb'⟩
   rcases h s r rfl with h|h
   ·exact .inl h
   ·exact .inr (by omega)
theorem Z9c(ls:List (List UInt8))(k:Nat)(p:M.Pk)(hk:0<k)(hp:p.needs.length+p.bars.length+p.files.length=0):Zim ls k p=M.Zba ls k p:=by
 cases ls with
 | nil=>rfl
 | cons s r=>
  unfold Zim
  by_cases hn:Lib.hasPrefix s M.Zbi=true
  ·simp only[if_pos hn,M.Zba]
   have e:M.Zbw p k s=(match Zb8 (fun t=>Zb8 Zbo 3 t [32,124,32]) 3 (s.drop 6) [44,32] with|none=>none|some l=>some { p with needs:=l }):=by
    unfold M.Zbw
    rw[Zdp,if_neg (by omega),if_pos ⟨hn,hp⟩,Z43]
    cases M.Zfg M.Zf2 (M.Zcn (s.drop 6) [44,32]) with
    | none=>rfl
    | some l=>
     by_cases h3:l.length<=3
     ·simp[h3]
     ·simp[h3]
   rw[e]
   cases hl:Zb8 (fun t=>Zb8 Zbo 3 t [32,124,32]) 3 (s.drop 6) [44,32] with
   | none=>rfl
   | some l=>
    have:=(Zoq hl).1
    exact Z6f r (k+1) _ (by omega) (by show p.bars.length+p.files.length=0;omega) (fun s' r' _=>.inr this)
  ·have hn':Lib.hasPrefix s M.Zbi=false:=by simpa using hn
   simp only[if_neg hn]
   refine Z6f (s :: r) k p hk (by omega) (fun s' r' e=>?_)
   simp only[List.cons.injEq] at e
   obtain⟨rfl,_⟩:=e
   exact .inl hn'
theorem Z5d(ls:List (List UInt8))(hl:ls≠[]):Zc1 ls M.Zat=M.Zba ls 0 M.Zat:=by
 cases ls with
 | nil=>exact absurd rfl hl
 | cons s r=>
  unfold Zc1
  simp only[M.Zba]
  have e0:M.Zbw M.Zat 0 s=(match M.Zew s with|none=>none|some (a,b)=>some { M.Zat with name:=a,ver:=b }):=by
   unfold M.Zbw;rw[if_pos rfl]
   cases M.Zew s <;> rfl
  rw[e0]
  by_cases hp:Lib.hasPrefix s Zk0=true
  ·rw[if_pos hp]
   obtain⟨t,rfl⟩:∃ t,s=Zk0++t:=⟨_,Zel hp⟩
   rw[Z5w,show (Zk0++t).drop 8=t from by simp[Zk0]]
   cases Zg8 t with
   | none=>rfl
   | some x=>exact Z9c r 1 _ (by omega) rfl
  ·have hp':Lib.hasPrefix s Zk0=false:=by simpa using hp
   rw[if_neg hp,Z2j hp']
theorem Ybk(s:List UInt8):Lib.trimSuffix s [10]=M.trimS s:=by
 unfold Lib.trimSuffix M.trimS
 by_cases h:Lib.hasSuffix s [10]=true
 ·rw[if_pos h]
  have e:=Zuj h
  rw[if_pos (by rw[e];simp),List.dropLast_eq_take]
  rfl
 ·rw[if_neg h,if_neg]
  intro e
  apply h
  unfold Lib.hasSuffix
  rw[List.isSuffixOf_iff_suffix]
  obtain⟨l,rfl⟩:=List.getLast?_eq_some_iff.1 e
  exact⟨l,rfl⟩
theorem Ybu(s:List UInt8)(h:s.length<=300):M.Zcp s=(match Zc1 (M.Zcn (Lib.trimSuffix s [10]) [10]) M.Zat with | .inl n=>.inl n | .inr p=>.inr { p with files:=M.Zcs p.files }):=by
 unfold M.Zcp
 have hne:M.Zcn (M.trimS s) [10]≠[]:=by
  have:=(M.Zbx (M.trimS s) [10]).1
  intro e;rw[e] at this;simp at this
 rw[if_neg (by omega),Ybk,Z5d _ hne]
 cases M.Zba (M.Zcn (M.trimS s) [10]) 0 M.Zat <;> rfl
end Go.Proofs.YtgnfknjopafngabGreatDoor
namespace Go.Proofs.YtgnfknjopafngabGreatDoor
open Go.RowKit
def Zby(w:World):Prop:=∃ m,w.cell? ⟨1,0,none⟩=some (.int .i64 m)
theorem Zby.lt{w:World}(h:Zby w):1<w.heap.size:=by
 obtain⟨m,h2⟩:=h
 rcases Nat.lt_or_ge 1 w.heap.size with h|h
 ·exact h
 ·simp[World.cell?,Array.getElem?_eq_none h] at h2
theorem Zby.below{w w':World}(h:Zby w)(hb:Below w.heap.size w w'):Zby w':=by
 have hlt:=h.lt
 obtain⟨m,h2⟩:=h
 exact⟨m,(hb.cell (p:=⟨1,0,none⟩) hlt).trans h2⟩
theorem Zby.drewN{w:World}(h:Zby w)(n:Nat):Zby (w.drewN n):=h.below (Zae w n)
theorem Zd9(l:List UInt8):∃ A:ByteArray,A.data.toList=l:=⟨⟨l.toArray⟩,rfl⟩
theorem mk_data(A:ByteArray):(⟨A.data.toList.toArray⟩:ByteArray)=A:=Zf5 rfl
theorem Zsm(s A B:ByteArray)(c:UInt8)(ok:Bool)(w:World)(hw:Zby w)(hs:s.size<=1000000)(h:Lib.cut s.data.toList [c]=(A.data.toList,B.data.toList,ok)):
 Calls Tryz.prog 160 #[.string s,.string ⟨#[c]⟩] w fun e w'=>e=.returned (.tuple #[.string A,.string B,.bool ok])/\∃ n,w'=w.drewN n:=by
 obtain⟨m,hm⟩:=hw
 have:=Tryz.strings_Cut s ⟨#[c]⟩ m w (by omega) hm
 have e:Lib.cut s.data.toList (ByteArray.mk #[c]).data.toList=(A.data.toList,B.data.toList,ok):=h
 rw[e] at this
 simp only[mk_data] at this
 exact this
theorem Zmb(s p A:ByteArray)(ok:Bool)(w:World)(h:Lib.trimPrefix s.data.toList p.data.toList=A.data.toList)(hok:Lib.hasPrefix s.data.toList p.data.toList=ok):
 Calls Tryz.prog 159 #[.string s,.string p] w fun e w'=>e=.returned (.tuple #[.string A,.bool ok])/\w'=w:=by
 have:=Tryz.strings_CutPrefix s p w
 rw[h,hok,mk_data] at this
 exact this
theorem Z07(s p A:ByteArray)(ok:Bool)(w:World)(hs:s.size<=1000000)(h:Lib.trimSuffix s.data.toList p.data.toList=A.data.toList)(hok:Lib.hasSuffix s.data.toList p.data.toList=ok):
 Calls Tryz.prog 215 #[.string s,.string p] w fun e w'=>e=.returned (.tuple #[.string A,.bool ok])/\w'=w:=by
 have:=Tryz.strings_CutSuffix s p w (by omega)
 rw[h,hok,mk_data] at this
 exact this
theorem Z85(s p A:ByteArray)(w:World)(hs:s.size<=1000000)(h:Lib.trimSuffix s.data.toList p.data.toList=A.data.toList):
 Calls Tryz.prog 65 #[.string s,.string p] w fun e w'=>e=.returned (.string A)/\w'=w:=by
 have:=Tryz.strings_TrimSuffix s p w (by omega)
 rw[h,mk_data] at this
 exact this
theorem Zir(s sep:ByteArray)(ps:List ByteArray)(w:World)(hw:Zby w)(hs:s.size<=1000000)(h1:1<=sep.size)(h:M.Zcn s.data.toList sep.data.toList=ps.map (fun p=>p.data.toList)):
 Calls Tryz.prog 64 #[.string s,.string sep] w fun e w'=>e=.returned (.slice (some ⟨w.heap.size,0,none⟩) ps.length ps.length)/\w'=w.alloc (.cells (ps.map Value.string).toArray 9):=by
 obtain⟨m,hm⟩:=hw
 have:=Tryz.strings_Split s sep m w (by omega) hm h1
 have e:=Z7h s sep h1
 rw[h] at e
 have e2:Lib.splitB sep 0 (Lib.countB s sep) s=ps:=(List.map_inj_right (fun a b hab=>Zf5 hab)).1 e
 have e3:=Lib.splitB_all sep h1 0 _ s rfl
 rw[e2] at this e3
 rw[<-e3] at this
 exact this
def Zjy{α:Type}(o:Option α)(enc:α->Value)(e:Ending):Prop:=match o with
 | some x=>e=.returned (enc x)
 | none=>Zce e
theorem Zsf{α:Type}{o:Option α}{enc:α->Value}{e:Ending}(x:α)(ho:o=some x)(h:e=.returned (enc x)):Zjy o enc e:=by rw[ho];exact h
theorem Zlj{α:Type}{o:Option α}{enc:α->Value}{e:Ending}(ho:o=none)(h:Zce e):Zjy o enc e:=by rw[ho];exact h
theorem Zid{b:Bool}{v:Value}{e:Ending}(hb:b=true)(h:Gives b v e):e=.returned v:=by unfold Gives at h;rw[if_pos hb] at h;exact h
theorem Zi2{b:Bool}{v:Value}{e:Ending}(hb:b=false)(h:Gives b v e):Zce e:=by unfold Gives at h;rw[if_neg (by rw[hb];decide)] at h;exact h
theorem Z9l(s:ByteArray):Zm5 s=Zse s.data.toList:=by unfold Zm5 Zse;rw[Lib.toList_data]
theorem Zt6(s p:List UInt8):(Lib.trimPrefix s p).length<=s.length:=by unfold Lib.trimPrefix;split <;> simp
theorem Zr5(s p:List UInt8):(Lib.trimSuffix s p).length<=s.length:=by unfold Lib.trimSuffix;split <;> simp
theorem Zit(s:List UInt8)(c:UInt8):(Lib.cut s [c]).1.length<=s.length/\(Lib.cut s [c]).2.1.length<=s.length:=by
 rcases Zd0 s c with ⟨_,e,_⟩|⟨a,b,e1,_,e,_⟩
 ·rw[e];simp
 ·rw[e,e1];simp;omega
theorem Zaq(s:ByteArray):s.data.toList.length=s.size:=by simp
theorem Zcy{s:ByteArray}{l:List UInt8}(h:s.data.toList=l):s.size=l.length:=by rw[<-h];simp
theorem Zqb(s A B C D:ByteArray)(b1 b2 ok sg vr:Bool)(w:World)(hw:Hid (Zby w))
 (c1:∀ wx,Calls Tryz.prog 159 #[.string s,.string ⟨#[40]⟩] wx fun e w'=>e=.returned (.tuple #[.string A,.bool b1])/\w'=wx)
 (c2:∀ wx,Calls Tryz.prog 215 #[.string A,.string ⟨#[41]⟩] wx fun e w'=>e=.returned (.tuple #[.string B,.bool b2])/\w'=wx)
 (c3:∀ wx,Zby wx->Calls Tryz.prog 160 #[.string B,.string ⟨#[32]⟩] wx fun e w'=>e=.returned (.tuple #[.string C,.string D,.bool ok])/\∃ n,w'=wx.drewN n)
 (c4:∀ wx,Calls Tryz.prog 216 #[.string C] wx fun e w'=>e=.returned (.bool sg)/\w'=wx)
 (c5:∀ wx,Calls Tryz.prog 162 #[.string D] wx fun e w'=>Gives vr (.string D) e/\w'=wx):
 Calls Tryz.prog 163 #[.string s] w fun e w'=>Gives (b1 && b2 && ok && sg && vr) (.tuple #[.string C,.string D]) e/\∃ n,w'=w.drewN n:=by
 have cY:=Zfn
 have cN:=Zes
 cases b1
 ·clear c2 c3 c4 c5 cY
  go_enter Tryz.func163,Tryz.ntmps163
  go_wp2_with (first|(go_at_call 159;refine(c1 _).mono ?_;rintro e w' ⟨rfl,rfl⟩)|(go_at_call 62;refine(cN _).mono ?_;rintro e w' ⟨rfl,rfl⟩))
  exact⟨rfl,Zeq rfl rfl,0,rfl⟩
 cases b2
 ·clear c3 c4 c5
  go_enter Tryz.func163,Tryz.ntmps163
  go_wp2_with (first|(go_at_call 159;refine(c1 _).mono ?_;rintro e w' ⟨rfl,rfl⟩)|(go_at_call 215;refine(c2 _).mono ?_;rintro e w' ⟨rfl,rfl⟩)|(go_at_call 62;refine(cY _).mono ?_;rintro e w' ⟨rfl,rfl⟩)|(go_at_call 62;refine(cN _).mono ?_;rintro e w' ⟨rfl,rfl⟩))
  exact⟨rfl,Zeq rfl rfl,0,rfl⟩
 cases ok
 ·clear c4 c5
  go_enter Tryz.func163,Tryz.ntmps163
  go_wp2_with (first|(go_at_call 159;refine(c1 _).mono ?_;rintro e w' ⟨rfl,rfl⟩)|(go_at_call 215;refine(c2 _).mono ?_;rintro e w' ⟨rfl,rfl⟩)|(go_at_call 160;refine(c3 _ hw.out).mono ?_;rintro e w' ⟨rfl,n,rfl⟩)|(go_at_call 62;refine(cY _).mono ?_;rintro e w' ⟨rfl,rfl⟩)|(go_at_call 62;refine(cN _).mono ?_;rintro e w' ⟨rfl,rfl⟩))
  exact⟨rfl,Zeq rfl rfl,n,rfl⟩
 cases sg
 ·clear c5
  go_enter Tryz.func163,Tryz.ntmps163
  go_wp2_with (first|(go_at_call 159;refine(c1 _).mono ?_;rintro e w' ⟨rfl,rfl⟩)|(go_at_call 215;refine(c2 _).mono ?_;rintro e w' ⟨rfl,rfl⟩)|(go_at_call 160;refine(c3 _ hw.out).mono ?_;rintro e w' ⟨rfl,n,rfl⟩)|(go_at_call 216;refine(c4 _).mono ?_;rintro e w' ⟨rfl,rfl⟩)|(go_at_call 62;refine(cY _).mono ?_;rintro e w' ⟨rfl,rfl⟩)|(go_at_call 62;refine(cN _).mono ?_;rintro e w' ⟨rfl,rfl⟩))
  exact⟨rfl,Zeq rfl rfl,n,rfl⟩
 clear cN
 cases vr
 ·replace c5:∀ wx,Calls Tryz.prog 162 #[.string D] wx fun e w'=>Zce e/\w'=wx:=fun wx=>(c5 wx).mono fun e w' h=>⟨Zi2 rfl h.1,h.2⟩
  go_enter Tryz.func163,Tryz.ntmps163
  go_wp2_with (first|(go_at_call 159;refine(c1 _).mono ?_;rintro e w' ⟨rfl,rfl⟩)|(go_at_call 215;refine(c2 _).mono ?_;rintro e w' ⟨rfl,rfl⟩)|(go_at_call 160;refine(c3 _ hw.out).mono ?_;rintro e w' ⟨rfl,n,rfl⟩)|(go_at_call 216;refine(c4 _).mono ?_;rintro e w' ⟨rfl,rfl⟩)|(go_at_call 162;refine(c5 _).mono ?_;rintro e w' ⟨rfl,rfl⟩)|(go_at_call 62;refine(cY _).mono ?_;rintro e w' ⟨rfl,rfl⟩))
  exact⟨rfl,Zeq rfl rfl,n,rfl⟩
 ·replace c5:∀ wx,Calls Tryz.prog 162 #[.string D] wx fun e w'=>e=.returned (.string D)/\w'=wx:=fun wx=>(c5 wx).mono fun e w' h=>⟨Zid rfl h.1,h.2⟩
  go_enter Tryz.func163,Tryz.ntmps163
  go_wp2_with (first|(go_at_call 159;refine(c1 _).mono ?_;rintro e w' ⟨rfl,rfl⟩)|(go_at_call 215;refine(c2 _).mono ?_;rintro e w' ⟨rfl,rfl⟩)|(go_at_call 160;refine(c3 _ hw.out).mono ?_;rintro e w' ⟨rfl,n,rfl⟩)|(go_at_call 216;refine(c4 _).mono ?_;rintro e w' ⟨rfl,rfl⟩)|(go_at_call 162;refine(c5 _).mono ?_;rintro e w' ⟨rfl,rfl⟩)|(go_at_call 62;refine(cY _).mono ?_;rintro e w' ⟨rfl,rfl⟩))
  go_ret2
  exact⟨Zob rfl rfl,n,rfl⟩
theorem Zsi(s:ByteArray)(w:World)(hw:Zby w)(hs:s.size<=1000000):
 Calls Tryz.prog 163 #[.string s] w fun e w'=>Zjy (Zfp s.data.toList) (fun x=>.tuple #[.string ⟨x.1.toArray⟩,.string ⟨x.2.toArray⟩]) e/\∃ n,w'=w.drewN n:=by
 obtain⟨A,hA⟩:=Zd9 (Lib.trimPrefix s.data.toList [40])
 obtain⟨B,hB⟩:=Zd9 (Lib.trimSuffix A.data.toList [41])
 obtain⟨C,hC⟩:=Zd9 (Lib.cut B.data.toList [32]).1
 obtain⟨D,hD⟩:=Zd9 (Lib.cut B.data.toList [32]).2.1
 have sA:A.size<=s.size:=by have:=Zt6 s.data.toList [40];rw[Zcy hA];simpa using this
 have sB:B.size<=s.size:=by have:=Zr5 A.data.toList [41];have h:=Zaq A;rw[Zcy hB];omega
 have sD:D.size<=s.size:=by have:=(Zit B.data.toList 32).2;have h:=Zaq B;rw[Zcy hD];omega
 refine(Zqb s A B C D (Lib.hasPrefix s.data.toList [40]) (Lib.hasSuffix A.data.toList [41]) (Lib.cut B.data.toList [32]).2.2 (Zm5 C) (Zkt D) w hw
  (fun wx=>Zmb s ⟨#[40]⟩ A _ wx hA.symm rfl) (fun wx=>Z07 A ⟨#[41]⟩ B _ wx (by omega) hB.symm rfl) (fun wx hx=>Zsm B C D 32 _ wx hx (by omega) (by rw[hC,hD]))
  (fun wx=>Z15 C wx) (fun wx=>Zi1 D wx (by omega))).mono ?_
 rintro e w' ⟨h,hn⟩
 refine⟨?_,hn⟩
 have HL:Zfp s.data.toList=if Lib.hasPrefix s.data.toList [40]=true/\Lib.hasSuffix A.data.toList [41]=true/\(Lib.cut B.data.toList [32]).2.2=true/\Zm5 C=true/\Zkt D=true then some (C.data.toList,D.data.toList) else none:=by
  unfold Zfp
  rw[<-hA,<-hB,<-hC,<-hD,Z9l]
  rfl
 rw[HL]
 unfold Gives at h
 simp only[Bool.and_eq_true,and_assoc] at h
 split at h
 ·rename_i hc
  rw[if_pos hc]
  exact h
 ·rename_i hc
  rw[if_neg hc]
  exact h
def chV(c:M.Ch):Value:=.agg #[.string ⟨c.name.toArray⟩,.string ⟨c.sign.toArray⟩,.string ⟨c.ver.toArray⟩]
theorem Zme(w:World)(xs:List Value)(t:TypeId)(n:Nat):
 Below w.heap.size w ((w.alloc (.cells xs.toArray t)).drewN n)/\((w.alloc (.cells xs.toArray t)).drewN n).heap.size=w.heap.size+1/\
  (∀ j u,xs[j]? = some u->((w.alloc (.cells xs.toArray t)).drewN n).cell? ⟨w.heap.size,j,none⟩=some u)/\∀ o,((w.alloc (.cells xs.toArray t)).drewN n).frozen? ⟨w.heap.size,o,none⟩=false:=by
 refine⟨below_drewN ((Below.refl _ w).alloc ler _) n,by simp,fun j u hj=>?_,fun o=>?_⟩
 ·show (w.alloc (.cells xs.toArray t)).cell? ⟨w.heap.size,j,none⟩=some u
  unfold World.cell?
  rw[(MapKept.heap_alloc w _).1]
  simp[hj]
 ·show (w.alloc (.cells xs.toArray t)).frozen? ⟨w.heap.size,o,none⟩=false
  unfold World.frozen?
  rw[(MapKept.heap_alloc w _).1]
  simp
theorem Zbj(w:World)(b o:Nat)(v:Value)(o':Nat)(h:o'≠o):(w.setCell ⟨b,o,none⟩ v).cell? ⟨b,o',none⟩=w.cell? ⟨b,o',none⟩:=
 World.cell?_setCell_other _ _ _ _ (by intro e;cases e;exact h rfl)
theorem Zbu(w:World)(b o:Nat)(v:Value)(g o':Nat)(h:g≠b):(w.setCell ⟨b,o,none⟩ v).cell? ⟨g,o',none⟩=w.cell? ⟨g,o',none⟩:=
 World.cell?_setCell_other _ _ _ _ (by intro e;cases e;exact h rfl)
theorem Za0(w:World)(a:Addr)(v:Value):(w.setCell a v).heap.size=w.heap.size:=by simp[World.setCell]
theorem set3(X:World)(b:Nat)(a0 a1 a2 u0 u1 u2:Value)(h0:X.cell? ⟨b,0,none⟩=some u0)(h1:X.cell? ⟨b,1,none⟩=some u1)(h2:X.cell? ⟨b,2,none⟩=some u2):
 (((X.setCell ⟨b,0,none⟩ a0).setCell ⟨b,1,none⟩ a1).setCell ⟨b,2,none⟩ a2).cell? ⟨b,0,none⟩=some a0/\
 (((X.setCell ⟨b,0,none⟩ a0).setCell ⟨b,1,none⟩ a1).setCell ⟨b,2,none⟩ a2).cell? ⟨b,1,none⟩=some a1/\
 (((X.setCell ⟨b,0,none⟩ a0).setCell ⟨b,1,none⟩ a1).setCell ⟨b,2,none⟩ a2).cell? ⟨b,2,none⟩=some a2:=by
 refine⟨?_,?_,?_⟩
 ·rw[Zbj _ _ _ _ _ (by decide),Zbj _ _ _ _ _ (by decide),World.cell?_setCell_same _ _ _ h0]
 ·rw[Zbj _ _ _ _ _ (by decide),World.cell?_setCell_same _ _ _ (by rw[Zbj _ _ _ _ _ (by decide)];exact h1)]
 ·rw[World.cell?_setCell_same _ _ _ (by rw[Zbj _ _ _ _ _ (by decide),Zbj _ _ _ _ _ (by decide)];exact h2)]
theorem Znv(s A B:ByteArray)(ok nm:Bool)(L:Option (List UInt8 × List UInt8))(w:World)(hw:Hid (Zby w))
 (c1:∀ wx,Zby wx->Calls Tryz.prog 160 #[.string s,.string ⟨#[32]⟩] wx fun e w'=>e=.returned (.tuple #[.string A,.string B,.bool ok])/\∃ n,w'=wx.drewN n)
 (c2:∀ wx,Calls Tryz.prog 161 #[.string A] wx fun e w'=>Gives nm (.string A) e/\w'=wx)
 (c3:∀ wx,Zby wx->Calls Tryz.prog 163 #[.string B] wx fun e w'=>Zjy L (fun x=>.tuple #[.string ⟨x.1.toArray⟩,.string ⟨x.2.toArray⟩]) e/\∃ n,w'=wx.drewN n):
 Calls Tryz.prog 118 #[.string s] w fun e w'=>Zjy (if nm=true then (if ok=true then L.map (fun x=>(⟨A.data.toList,x.1,x.2⟩:M.Ch)) else some ⟨A.data.toList,[],[]⟩) else none) chV e/\Below w.heap.size w w':=by
 have hwA:∀ o,Zby (w.alloc o):=fun o=>hw.out.below ((Below.refl _ w).alloc ler _)
 go_enter Tryz.func118,Tryz.ntmps118
 go_wp2_with fail
 refine(c1 _ (hwA _)).mono ?_
 rintro e w' ⟨rfl,n,rfl⟩
 obtain⟨hB1,hz,hcl,hfz⟩:=Zme w [.string ⟨#[]⟩,.string ⟨#[]⟩,.string ⟨#[]⟩] 140 n
 generalize hW:(w.alloc (.cells [Value.string ⟨#[]⟩,.string ⟨#[]⟩,.string ⟨#[]⟩].toArray 140)).drewN n=W1 at hB1 hz hcl hfz
 have q0:=hcl 0 _ rfl
 have q1:=hcl 1 _ rfl
 have q2:=hcl 2 _ rfl
 have HB1:=hid hB1
 have hm1:=hw.out.below hB1
 replace hm1:Hid (Zby W1):=hm1
 have hmA:∀ o,Zby (W1.alloc o):=fun o=>hm1.out.below ((Below.refl _ W1).alloc ler _)
 have hBA:∀ o n,Below w.heap.size w ((W1.alloc o).drewN n):=fun o n=>bt HB1.out (below_drewN ((Below.refl _ W1).alloc ler _) n)
 change _ = _ at hW
 simp only[List.toArray] at hW
 cases nm
 ·clear c3
  replace c2:∀ wx,Calls Tryz.prog 161 #[.string A] wx fun e w'=>Zce e/\w'=wx:=fun wx=>(c2 wx).mono fun e w' h=>⟨Zi2 rfl h.1,h.2⟩
  go_wp2_with ((go_at_call 161;refine(c2 _).mono ?_;rintro e w' ⟨rfl,rfl⟩))
  exact⟨rfl,Zlj rfl rfl,HB1.out⟩
 replace c2:∀ wx,Calls Tryz.prog 161 #[.string A] wx fun e w'=>e=.returned (.string A)/\w'=wx:=fun wx=>(c2 wx).mono fun e w' h=>⟨Zid rfl h.1,h.2⟩
 cases ok
 ·clear c3
  go_wp2_with ((go_at_call 161;refine(c2 _).mono ?_;rintro e w' ⟨rfl,rfl⟩))
  obtain⟨k0,k1,k2⟩:=set3 w' w.heap.size (.string A) (.string ⟨#[]⟩) (.string ⟨#[]⟩) _ _ _ q0 q1 q2
  have hp:∀ o j,((((w'.setCell ⟨w.heap.size,0,none⟩ (.string A)).setCell ⟨w.heap.size,1,none⟩ (.string ⟨#[]⟩)).setCell ⟨w.heap.size,2,none⟩ (.string ⟨#[]⟩)).alloc o).cell? ⟨w.heap.size,j,none⟩=(((w'.setCell ⟨w.heap.size,0,none⟩ (.string A)).setCell ⟨w.heap.size,1,none⟩ (.string ⟨#[]⟩)).setCell ⟨w.heap.size,2,none⟩ (.string ⟨#[]⟩)).cell? ⟨w.heap.size,j,none⟩:=fun o j=>World.cell?_alloc_past _ _ _ (by simp[hz])
  refine bodyPost_ret (v:=.agg #[.string A,.string ⟨#[]⟩,.string ⟨#[]⟩]) (by simp[results,Tryz.results118,go_sem,hp,k0,k1,k2]) rfl ⟨Zsf _ rfl rfl,?_⟩
  exact(((HB1.out.setCell ler _).setCell ler _).setCell ler _).alloc (by simp;omega) _
 cases L with
 | none=>
  replace c3:∀ wx,Zby wx->Calls Tryz.prog 163 #[.string B] wx fun e w'=>Zce e/\∃ n,w'=wx.drewN n:=fun wx h=>(c3 wx h).mono fun e w' h=>h
  go_wp2_with (first|(go_at_call 161;refine(c2 _).mono ?_;rintro e w' ⟨rfl,rfl⟩)|(go_at_call 163;refine(c3 _ (hmA _)).mono ?_;rintro e w' ⟨rfl,k,rfl⟩))
  exact⟨rfl,Zlj rfl rfl,hBA _ k⟩
 | some x=>
  replace c3:∀ wx,Zby wx->Calls Tryz.prog 163 #[.string B] wx fun e w'=>e=.returned (.tuple #[.string ⟨x.1.toArray⟩,.string ⟨x.2.toArray⟩])/\∃ n,w'=wx.drewN n:=fun wx h=>(c3 wx h).mono fun e w' h=>h
  go_wp2_with (first|(go_at_call 161;refine(c2 _).mono ?_;rintro e w' ⟨rfl,rfl⟩)|(go_at_call 163;refine(c3 _ (hmA _)).mono ?_;rintro e w' ⟨rfl,k,rfl⟩))
  have hB9:=hBA (.cells #[.string A,.string ⟨#[]⟩,.string ⟨#[]⟩] 140) k
  obtain⟨hB5,hz5,hcl5,_⟩:=Zme w' [.string A,.string ⟨#[]⟩,.string ⟨#[]⟩] 140 k
  have hold:∀ j,((w'.alloc (.cells #[.string A,.string ⟨#[]⟩,.string ⟨#[]⟩] 140)).drewN k).cell? ⟨w.heap.size,j,none⟩=w'.cell? ⟨w.heap.size,j,none⟩:=fun j=>hB5.cell (p:=⟨w.heap.size,j,none⟩) (by simp[hz])
  generalize (w'.alloc (.cells #[.string A,.string ⟨#[]⟩,.string ⟨#[]⟩] 140)).drewN k=W5 at hB9 hold ⊢
  have hne:w.heap.size≠w.heap.size+1:=by omega
  obtain⟨k0,k1,k2⟩:=set3 ((W5.setCell ⟨w.heap.size+1,1,none⟩ (.string ⟨x.1.toArray⟩)).setCell ⟨w.heap.size+1,2,none⟩ (.string ⟨x.2.toArray⟩)) w.heap.size (.string A) (.string ⟨x.1.toArray⟩) (.string ⟨x.2.toArray⟩) _ _ _
   (by rw[Zbu _ _ _ _ _ _ hne,Zbu _ _ _ _ _ _ hne,hold];exact q0) (by rw[Zbu _ _ _ _ _ _ hne,Zbu _ _ _ _ _ _ hne,hold];exact q1) (by rw[Zbu _ _ _ _ _ _ hne,Zbu _ _ _ _ _ _ hne,hold];exact q2)
  refine bodyPost_ret (v:=.agg #[.string A,.string ⟨x.1.toArray⟩,.string ⟨x.2.toArray⟩]) (by simp[results,Tryz.results118,go_sem,k0,k1,k2]) rfl ⟨Zsf _ rfl rfl,?_⟩
  exact((((hB9.setCell (show w.heap.size<=w.heap.size+1 by omega) _).setCell (show w.heap.size<=w.heap.size+1 by omega) _).setCell ler _).setCell ler _).setCell ler _
theorem Zqn(s:ByteArray)(w:World)(hw:Zby w)(hs:s.size<=1000000):
 Calls Tryz.prog 118 #[.string s] w fun e w'=>Zjy (Zbo s.data.toList) chV e/\Below w.heap.size w w':=by
 obtain⟨A,hA⟩:=Zd9 (Lib.cut s.data.toList [32]).1
 obtain⟨B,hB⟩:=Zd9 (Lib.cut s.data.toList [32]).2.1
 have h:=Zaq s
 have sA:A.size<=s.size:=by have:=(Zit s.data.toList 32).1;rw[Zcy hA];omega
 have sB:B.size<=s.size:=by have:=(Zit s.data.toList 32).2;rw[Zcy hB];omega
 refine(Znv s A B (Lib.cut s.data.toList [32]).2.2 (Zg1 A) (Zfp B.data.toList) w hw
  (fun wx hx=>Zsm s A B 32 _ wx hx (by omega) (by rw[hA,hB])) (fun wx=>Zm1 A wx (by omega)) (fun wx hx=>Zsi B wx hx (by omega))).mono ?_
 rintro e w' ⟨h,hn⟩
 refine⟨?_,hn⟩
 have HL:Zbo s.data.toList=(if Zg1 A=true then (if (Lib.cut s.data.toList [32]).2.2=true then (Zfp B.data.toList).map (fun x=>(⟨A.data.toList,x.1,x.2⟩:M.Ch)) else some ⟨A.data.toList,[],[]⟩) else none):=by
  unfold Zbo
  rw[<-hA,<-hB]
  show (if Zg1 A=true then _ else _) = _
  cases Zfp B.data.toList <;> rfl
 rw[HL]
 exact h
def Zcu(a b:ByteArray):ByteArray:=⟨(M.Zc5 a.data.toList b.data.toList).toArray⟩
theorem Znp{a b:ByteArray}(h:a.toList.isEmpty=true\/(b.toList.isEmpty=false/\Op.bytesLess b.toList a.toList=true)):Zcu a b=b:=by
 apply Zf5
 show M.Zc5 a.data.toList b.data.toList = _
 unfold M.Zc5
 rw[Lib.toList_data,Lib.toList_data] at h
 rw[if_pos]
 rcases h with h|⟨h1,h2⟩
 ·exact .inl (List.isEmpty_iff.1 h)
 ·exact .inr ⟨(by intro e;rw[e] at h1;cases h1),h2⟩
theorem Zsr{a b:ByteArray}(h0:a.toList.isEmpty=false)(h:b.toList.isEmpty=true\/Op.bytesLess b.toList a.toList=false):Zcu a b=a:=by
 apply Zf5
 show M.Zc5 a.data.toList b.data.toList = _
 unfold M.Zc5
 rw[Lib.toList_data] at h0
 rw[Lib.toList_data,Lib.toList_data] at h
 rw[if_neg]
 rintro (h1|⟨h1,h2⟩)
 ·rw[h1] at h0;cases h0
 ·rcases h with h|h
  ·exact h1 (List.isEmpty_iff.1 h)
  ·rw[h2] at h;cases h
theorem Zhi(a b:ByteArray)(w:World):
 Calls Tryz.prog 100 #[.string a,.string b] w fun e w'=>e=.returned (.string (Zcu a b))/\w'=w:=by
 by_cases h0:a.toList.isEmpty=true
 ·have HE:Hid (Zcu a b=b):=Znp (.inl h0)
  go_enter Tryz.func100,Tryz.ntmps100
  go_wp2
  go_ret
  exact⟨Zj3 HE.out.symm,rfl⟩
 replace h0:a.toList.isEmpty=false:=by simpa using h0
 by_cases h1:b.toList.isEmpty=true
 ·have HE:Hid (Zcu a b=a):=Zsr h0 (.inl h1)
  go_enter Tryz.func100,Tryz.ntmps100
  go_wp2
  go_ret
  exact⟨Zj3 HE.out.symm,rfl⟩
 replace h1:b.toList.isEmpty=false:=by simpa using h1
 by_cases h2:Op.bytesLess b.toList a.toList=true
 ·have HE:Hid (Zcu a b=b):=Znp (.inr ⟨h1,h2⟩)
  go_enter Tryz.func100,Tryz.ntmps100
  go_wp2
  go_ret
  exact⟨Zj3 HE.out.symm,rfl⟩
 ·replace h2:Op.bytesLess b.toList a.toList=false:=by simpa using h2
  have HE:Hid (Zcu a b=a):=Zsr h0 (.inr h2)
  go_enter Tryz.func100,Tryz.ntmps100
  go_wp2
  go_ret
  exact⟨Zj3 HE.out.symm,rfl⟩
end Go.Proofs.YtgnfknjopafngabGreatDoor
