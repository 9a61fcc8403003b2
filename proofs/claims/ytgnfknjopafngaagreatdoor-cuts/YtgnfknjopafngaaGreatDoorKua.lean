import Derived.Lib.Bytealg
import Derived.Below
import Derived.WalkKit
import Derived.WalkSpells
import Derived.WalkLawsBesides
import Derived.WalkSmall
import Derived.Lib.Walk
import Derived.Lib.Strings
import Derived.Lib.IndexBytes
import Derived.Deep.DeepMust
import Derived.Deep.QuietTactic
import Derived.BigQuiet
import Derived.Shelf.Abstract
import Derived.Test.YtgnfknjopafngaaGreatDoorProg
set_option maxRecDepth 100000
set_option maxHeartbeats 1000000
namespace Go.Proofs.YtgnfknjopafngaaGreatDoor
namespace M
def isD(c:Int):Bool:=decide (48<=c/\c<=57)
def Zih(c:Int):Bool:=!isD c
def Znb(c:Int):Bool:=decide (97<=c/\c<=122)
def isLt(c:Int):Bool:=decide ((97<=c/\c<=122)\/(65<=c/\c<=90))
def Zdu(x y:Int):Int:=if x<y then -1 else if y<x then 1 else 0
def rk(c:Int):Int:=if c=126 then -1 else if isLt c=true then c else 256+c
def rkR(c:Int):Int:=if c=126 then -1 else if isLt c=true then c else c+1000
def lead(p:Int->Bool)(l:List UInt8):Nat:=(l.takeWhile (fun b=>p b.toNat)).length
theorem Yas{c:Int}(h:48<=c)(k:c<=57):isD c=true:=by unfold isD;simp;omega
theorem Z4u{c:Int}(h:c<48):isD c=false:=by unfold isD;simp;omega
theorem Z3o{c:Int}(h:57<c):isD c=false:=by unfold isD;simp;omega
theorem Zp0(p:Int->Bool)(l:List UInt8):lead p l<=l.length:=by
 unfold lead;exact(List.takeWhile_sublist _).length_le
theorem Z8i(p:Int->Bool):lead p []=0:=rfl
theorem Zhd(p:Int->Bool)(b:UInt8)(l:List UInt8):lead p (b :: l)=if p b.toNat=true then lead p l+1 else 0:=by
 unfold lead
 simp only[List.takeWhile_cons]
 by_cases h:p b.toNat=true <;> simp[h]
theorem Zfy{p:Int->Bool}:∀ {l:List UInt8} {k:Nat},(∀ j (h:j<l.length),j<k->p (l[j]).toNat=true)->k<=l.length->(∀ (h:k<l.length),p (l[k]).toNat=false)->lead p l=k
 | [],k,_,hk,_=>by simp at hk;subst hk;rfl
 | b :: l,0,_,_,hn=>by
  rw[Zhd]
  have:=hn (by simp)
  simp at this
  simp[this]
 | b :: l,k+1,ha,hk,hn=>by
  rw[Zhd]
  have h0:=ha 0 (by simp) (by omega)
  simp at h0
  rw[if_pos h0,Zfy (l:=l) (k:=k) (fun j h hj=>ha (j+1) (by simpa using h) (by omega)) (by simpa using hk) (fun h=>hn (by simpa using h))]
def at'(s t:List UInt8)(j:Nat):Bool:=(t.drop j).take s.length == s
def inn(s t:List UInt8):Bool:=(List.range (t.length+1-s.length)).any (at' s t)
theorem Yb4{s t:List UInt8}{k:Nat}(h:k+s.length<=t.length)(hk:at' s t k=true):inn s t=true:=by
 unfold inn;rw[List.any_eq_true];exact⟨k,by rw[List.mem_range];omega,hk⟩
theorem Ycy{s t:List UInt8}{k:Nat}(h:∀ j,j<k->at' s t j=false)(hk:t.length<k+s.length):inn s t=false:=by
 unfold inn
 rw[List.any_eq_false]
 intro j hj
 rw[List.mem_range] at hj
 rw[h j (by omega)];decide
theorem Zw6(c:UInt8)(t:List UInt8):inn [c] t=t.contains c:=by
 induction t with
 | nil=>rfl
 | cons b t ih=>
  unfold inn at ih ⊢
  have e:(b :: t).length+1-[c].length=(t.length+1-[c].length)+1:=by simp
  rw[e,List.range_succ_eq_map,List.any_cons,List.any_map,List.contains_cons,<-ih]
  have e1:at' [c] (b :: t) 0=(c == b):=by
   unfold at';simp
   exact BEq.comm
  have e2:(at' [c] (b :: t) ∘ Nat.succ)=at' [c] t:=by funext j;simp[at']
  rw[e1,e2]
def strip(l:List UInt8):List UInt8:=l.dropWhile (fun b=>b == 48)
end M
namespace M
def Zi5(c:Int):Bool:=decide ((97<=c/\c<=122)\/(48<=c/\c<=57)\/c=45)
def Zv8(c:Int):Bool:=decide ((97<=c/\c<=122)\/(65<=c/\c<=90)\/(48<=c/\c<=57)\/c=46\/c=43\/c=45\/c=126)
def Zf6(c:Int):Bool:=decide ((97<=c/\c<=122)\/(48<=c/\c<=57)\/c=46\/c=95)
def made(p:Int->Bool)(least most:Nat)(s:List UInt8):Bool:=s.all (fun b=>p b.toNat) && (decide (least<=s.length) && decide (s.length<=most))
def Zqp(p:Int->Bool)(s:List UInt8):Bool:=match s with
 | []=>false
 | b :: _=>p b.toNat
def Zfj(s:List UInt8):Bool:=made Zi5 1 12 s && Zqp Znb s
def Zgz(s:List UInt8):Bool:=made Zv8 1 16 s && Zqp isD s
def Zjz(sep:List UInt8):Nat->List UInt8->List UInt8->List (List UInt8)
 | 0,cur,rest=>[cur++rest]
 | n+1,cur,rest=>
  if rest.length<sep.length then [cur++rest]
  else if rest.take sep.length=sep then cur :: Zjz sep n [] (rest.drop sep.length)
  else Zjz sep n (cur++rest.take 1) (rest.drop 1)
def Zcn(s sep:List UInt8):List (List UInt8):=Zjz sep s.length [] s
theorem Znl{sep:List UInt8}(hs:0<sep.length):∀ (n m:Nat) (cur rest:List UInt8),rest.length<=n->rest.length<=m->Zjz sep n cur rest=Zjz sep m cur rest
 | 0,0,_,_,_,_=>rfl
 | 0,m+1,cur,rest,hn,_=>by
  have:rest=[]:=List.length_eq_zero_iff.mp (by omega)
  subst this
  simp only[Zjz,List.length_nil]
  rw[if_pos hs]
 | n+1,0,cur,rest,_,hm=>by
  have:rest=[]:=List.length_eq_zero_iff.mp (by omega)
  subst this
  simp only[Zjz,List.length_nil]
  rw[if_pos hs]
 | n+1,m+1,cur,rest,hn,hm=>by
  simp only[Zjz]
  by_cases h1:rest.length<sep.length
  ·rw[if_pos h1,if_pos h1]
  ·rw[if_neg h1,if_neg h1]
   rw[Znl hs n m [] (rest.drop sep.length) (by simp;omega) (by simp;omega),Znl hs n m (cur++rest.take 1) (rest.drop 1) (by simp;omega) (by simp;omega)]
theorem Zie{sep:List UInt8}(n:Nat)(cur rest:List UInt8)(h:rest.length<sep.length):Zjz sep n cur rest=[cur++rest]:=by
 cases n with
 | zero=>rfl
 | succ n=>simp only[Zjz];rw[if_pos h]
theorem Zsw{sep:List UInt8}(hs:0<sep.length)(n m:Nat)(cur rest:List UInt8)(hn:rest.length<=n)(hm:(rest.drop sep.length).length<=m)(h:¬ rest.length<sep.length)(h2:rest.take sep.length=sep):
 Zjz sep n cur rest=cur :: Zjz sep m [] (rest.drop sep.length):=by
 cases n with
 | zero=>omega
 | succ n=>
  simp only[Zjz]
  rw[if_neg h,if_pos h2,Znl hs n m _ _ (by simp;omega) hm]
theorem Zip{sep:List UInt8}(hs:0<sep.length)(n m:Nat)(cur rest:List UInt8)(hn:rest.length<=n)(hm:(rest.drop 1).length<=m)(h:¬ rest.length<sep.length)(h2:¬ rest.take sep.length=sep):
 Zjz sep n cur rest=Zjz sep m (cur++rest.take 1) (rest.drop 1):=by
 cases n with
 | zero=>omega
 | succ n=>
  simp only[Zjz]
  rw[if_neg h,if_neg h2,Znl hs n m _ _ (by simp;omega) hm]
theorem Zng{sep:List UInt8}:∀ (n:Nat) (cur rest:List UInt8),0<(Zjz sep n cur rest).length/\(Zjz sep n cur rest).length<=n+1
 | 0,_,_=>by simp[Zjz]
 | n+1,cur,rest=>by
  simp only[Zjz]
  split
  ·simp
  ·split
   ·have:=Zng (sep:=sep) n [] (rest.drop sep.length);simp;omega
   ·have:=Zng (sep:=sep) n (cur++rest.take 1) (rest.drop 1);omega
theorem Zbx(s sep:List UInt8):0<(Zcn s sep).length/\(Zcn s sep).length<=s.length+1:=Zng _ _ _
theorem Zta{sep:List UInt8}:∀ (n:Nat) (cur rest:List UInt8),∀ x∈Zjz sep n cur rest,x.length<=cur.length+rest.length
 | 0,cur,rest,x,hx=>by simp[Zjz] at hx;subst hx;simp
 | n+1,cur,rest,x,hx=>by
  simp only[Zjz] at hx
  split at hx
  ·simp at hx;subst hx;simp
  ·split at hx
   ·rcases List.mem_cons.mp hx with rfl|hx
    ·omega
    ·have:=Zta (sep:=sep) n [] (rest.drop sep.length) x hx;simp at this;omega
   ·have:=Zta (sep:=sep) n (cur++rest.take 1) (rest.drop 1) x hx
    simp only[List.length_append,List.length_take,List.length_drop] at this;omega
theorem Zjp(s sep:List UInt8)(x:List UInt8)(h:x∈Zcn s sep):x.length<=s.length:=by
 have:=Zta (sep:=sep) s.length [] s x h;simpa using this
def begins(s t:List UInt8):Bool:=decide (t.length<=s.length) && (s.take t.length == t)
def over(a b:List UInt8):Bool:=begins b (a++[47])
structure Ch where
 name:List UInt8
 sign:List UInt8
 ver:List UInt8
structure Fl where
 path:List UInt8
 content:List UInt8
structure Pk where
 name:List UInt8
 ver:List UInt8
 needs:List (List Ch)
 bars:List Ch
 files:List Fl
def Zer(p:List UInt8):Bool:=p == [40,60,60] || p == [40,60,61] || p == [40,61] || p == [40,62,61] || p == [40,62,62]
def Zc4(s:List UInt8):Option Ch:=match Zcn s [32] with
 | [p0]=>if Zfj p0=true then some ⟨s,[],[]⟩ else none
 | [p0,p1,p2]=>
  if Zfj p0=true/\0<p2.length/\Zgz (p2.take (p2.length-1))=true/\Zer p1=true/\(p2.drop (p2.length-1) == [41])=true then some ⟨p0,p1.drop 1,p2.take (p2.length-1)⟩ else none
 | _=>none
def Zfg{α:Type}(f:List UInt8->Option α):List (List UInt8)->Option (List α)
 | []=>some []
 | s :: l=>match f s with
  | none=>none
  | some c=>match Zfg f l with
   | none=>none
   | some r=>some (c :: r)
def Zbz(s sep:List UInt8)(most:Nat):Option (List Ch):=match Zfg Zc4 (Zcn s sep) with
 | none=>none
 | some l=>if l.length<=most then some l else none
def Zs7(s:List UInt8):Bool:=(Zcn s [47]).all (fun q=>made Zf6 1 8 q && !(q == [46]) && !(q == [46,46])) && decide ((Zcn s [47]).length<=3)
def Zjs(s:List UInt8):Option Fl:=
 if lead (fun c=>decide (c≠61)) s=s.length then none
 else if Zs7 (s.take (lead (fun c=>decide (c≠61)) s))=true/\s.length-lead (fun c=>decide (c≠61)) s-1<=24 then
  some ⟨s.take (lead (fun c=>decide (c≠61)) s),s.drop (lead (fun c=>decide (c≠61)) s+1)⟩
 else none
def Zbi:List UInt8:=[110,101,101,100,115,32]
def Zcr:List UInt8:=[98,97,114,115,32]
def Zfw:List UInt8:=[102,105,108,101,32]
def Zew(s:List UInt8):Option (List UInt8 × List UInt8):=match Zcn s [32] with
 | [a,b,c]=>if (a == [112,97,99,107,97,103,101])=true/\Zfj b=true/\Zgz c=true then some (b,c) else none
 | _=>none
def apart(f g:Fl):Bool:=!over f.path g.path && !over g.path f.path && !(f.path == g.path)
def Zf2(s:List UInt8):Option (List Ch):=Zbz s [32,124,32] 3
def Zbw(p:Pk)(k:Nat)(s:List UInt8):Option Pk:=
 if k=0 then (match Zew s with
  | none=>none
  | some (a,b)=>some { p with name:=a,ver:=b })
 else if begins s Zbi=true/\p.needs.length+p.bars.length+p.files.length=0 then (match Zfg Zf2 (Zcn (s.drop 6) [44,32]) with
  | none=>none
  | some l=>if l.length<=3 then some { p with needs:=l } else none)
 else if begins s Zcr=true/\p.bars.length+p.files.length=0 then (match Zbz (s.drop 5) [44,32] 3 with
  | none=>none
  | some l=>some { p with bars:=l })
 else if begins s Zfw=true/\p.files.length<4 then (match Zjs (s.drop 5) with
  | none=>none
  | some f=>if p.files.all (apart f)=true then some { p with files:=p.files++[f] } else none)
 else none
end M
end Go.Proofs.YtgnfknjopafngaaGreatDoor
namespace Go.Proofs.YtgnfknjopafngaaGreatDoor
open Go.RowKit
theorem Zad{a b:Bool}(h:a=b):Ending.returned (.bool a)=.returned (.bool b):=by rw[h]
theorem Za7{k:IntKind}{a b:Int}(h:a=b):Ending.returned (.int k a)=.returned (.int k b):=by rw[h]
theorem Zj3{a b:ByteArray}(h:a=b):Ending.returned (.string a)=.returned (.string b):=by rw[h]
theorem Zf5{s t:ByteArray}(h:s.data.toList=t.data.toList):s=t:=by
 obtain⟨⟨a⟩⟩:=s;obtain⟨⟨b⟩⟩:=t
 simp at h;rw[h]
theorem Zoa(l:List UInt8):(ByteArray.mk l.toArray).data.toList=l:=rfl
theorem Zfc(s:ByteArray)(k:Nat):(s.extract k s.size).data.toList=s.data.toList.drop k:=Lib.extract_to_end s k
theorem Zc2(s:ByteArray)(k:Nat):(s.extract 0 k).data.toList=s.data.toList.take k:=by rw[Lib.extract_data];simp
theorem ext_size(s:ByteArray)(i j:Nat):(s.extract i j).size<=s.size:=by simp;omega
def lenOf:Value->Nat
 | .string t=>t.size
 | _=>0
theorem Zdi{P:Program}{f:FuncId}{args:Array Value}{w:World}{n k:Nat}{v:Value}
 (h:Calls P f args (w.drewN (n+k)) fun e w'=>e=.returned v/\w'=w.drewN (n+k)):Calls P f args (w.drewN (n+k)) fun e w''=>e=.returned v/\∃ m,w''=w.drewN (n+m):=
 h.mono fun _ _ ⟨he,hm⟩=>⟨he,k,hm⟩
theorem Zlu(w:World)(n k:Nat):(w.drewN n).drewN k=w.drewN (n+k):=by simp[World.drewN,Nat.add_assoc]
theorem Zae(w:World)(n:Nat):Below w.heap.size w (w.drewN n):=below_drewN (Below.refl _ _) n
theorem bt{w wr w':World}(h:Below w.heap.size w wr)(k:Below wr.heap.size wr w'):Below w.heap.size w w':=h.trans (k.mono h.size)
theorem bt_n{w wr:World}(h:Below w.heap.size w wr)(n:Nat):Below w.heap.size w (wr.drewN n):=below_drewN h n
theorem Zca(w:World)(x:Value)(t:TypeId):∀ j u,[x][j]? = some u->(w.alloc (.cells #[x] t)).cell? ((⟨w.heap.size,0,none⟩:Addr).add j)=some u:=by
 intro j u hj
 cases j with
 | zero=>simp at hj;subst hj;simp[Addr.add]
 | succ j=>simp at hj
theorem Zrb{B e size n:Nat}{w wr w1:World}{v:Value}{xs:List Value}{o:Obj}(hB:Below B w wr)(hb:B<=wr.heap.size)(qV:wr.ownsRow B e size v n xs)(hg:(wr.alloc o).grownBy w1 v.ownBlock):Below B w w1:=
 (hB.alloc hb o).grown hg (by simp;omega) (fun k hk=>(qV.lt k hk).1)
theorem Zna{W w1:World}(hb:Below W.heap.size W w1):(∀ b o,b<W.heap.size->w1.cell? ⟨b,o,none⟩=W.cell? ⟨b,o,none⟩)/\(∀ b o,b<W.heap.size->w1.frozen? ⟨b,o,none⟩=W.frozen? ⟨b,o,none⟩):=
 ⟨fun b o h=>hb.cell (p:=⟨b,o,none⟩) h,fun b o h=>hb.frozen (p:=⟨b,o,none⟩) h⟩
theorem hid{p:Prop}(h:p):Hid p:=h
theorem ler{n:Nat}:n<=n:=Nat.le_refl n
theorem at_eq(s t:ByteArray)(k:Nat):((t.extract k (k+s.size)).toList == s.toList)=M.at' s.data.toList t.data.toList k:=by
 unfold M.at'
 rw[Lib.toList_data,Lib.toList_data,Lib.extract_data]
 simp
theorem Zzi(s t:ByteArray)(w:World)(hs:s.size+t.size<=4611686018427387904):
 Calls Tryz.prog 102 #[.string s,.string t] w fun e w'=>e=.returned (.bool (M.inn s.data.toList t.data.toList))/\w'=w:=by
 go_enter Tryz.func102,Tryz.ntmps102
 go_wp2
 go_loop [5] (fun i=>∃ k:Nat,k<=t.size+1/\i=.int .i64 k/\∀ j,j<k->M.at' s.data.toList t.data.toList j=false) (fun i=>t.size+1-(intOf i).toNat)
 case atStart=>exact⟨0,Nat.zero_le _,rfl,fun j h=>by omega⟩
 case round=>
  obtain⟨k,hk1,rfl,ha⟩:=hrel
  have HA:=hid ha
  clear ha
  by_cases hlt:k+s.size<=t.size
  ·by_cases hm:((t.extract k (k+s.size)).toList == s.toList)=true
   ·have HM:Hid (((t.extract k (k+s.size)).toList == s.toList)=true):=hm
    go_wp2
    go_ret
    exact⟨Zad (M.Yb4 (k:=k) (by simpa using hlt) (by rw[<-at_eq];exact HM.out)).symm,rfl⟩
   ·have hm':((t.extract k (k+s.size)).toList == s.toList)=false:=by simpa using hm
    clear hm
    have HM:Hid (((t.extract k (k+s.size)).toList == s.toList)=false):=hm'
    go_wp2
    go_round
    case rel=>
     refine⟨k+1,by omega,by go_num,fun j hj=>?_⟩
     by_cases hjk:j<k
     ·exact HA.out j hjk
     ·obtain rfl:j=k:=by omega
      rw[<-at_eq];exact HM.out
    case measure=>simp[intOf];omega
  ·go_wp2
   go_ret
   exact⟨Zad (M.Ycy HA.out (by simp;omega)).symm,rfl⟩
theorem one_byte(s:ByteArray)(k:Nat)(h:k<s.size):(s.extract k (k+1)).data.toList=[s[k]]:=by
 have h':k<s.data.toList.length:=by simpa using h
 rw[Lib.extract_data,List.drop_eq_getElem_cons h']
 simp
 rfl
def Zg5(p:Int->Bool)(least most:Nat)(s:ByteArray):Bool:=M.made p least most s.data.toList
theorem Yae{p:Int->Bool}{l:List UInt8}(h:∀ j (hj:j<l.length),p (l[j]).toNat=true):l.all (fun b=>p b.toNat)=true:=by
 rw[List.all_eq_true]
 intro b hb
 obtain⟨j,hj,rfl⟩:=List.getElem_of_mem hb
 exact h j hj
theorem Ybc{p:Int->Bool}{l:List UInt8}{k:Nat}(hk:k<l.length)(h:p (l[k]).toNat=false):l.all (fun b=>p b.toNat)=false:=by
 rw[List.all_eq_false]
 exact⟨l[k],List.getElem_mem hk,by rw[h];decide⟩
theorem Zsb(t:ByteArray)(p:Int->Bool)(hset:Hid (∀ b:UInt8,t.data.toList.contains b=p b.toNat))(least most:Int)(hm:0<=most)(hm2:most<=100)(ht:t.size<=1000)(s:ByteArray)(w:World)(hs:s.size<=1000000):
 Calls Tryz.prog 101 #[.string s,.string t,.int .i64 least,.int .i64 most] w fun e w'=>e=.returned (.bool (Zg5 p least.toNat most.toNat s))/\w'=w:=by
 go_enter Tryz.func101,Tryz.ntmps101
 go_wp2
 go_loop [9,10] (fun i _=>∃ k:Nat,k<=s.size/\i=.int .i64 k/\Hid (∀ j (h:j<s.data.toList.length),j<k->p (s.data.toList[j]).toNat=true)) (fun i _=>s.size-(intOf i).toNat)
 case atStart=>exact⟨0,Nat.zero_le _,rfl,fun j _ h=>by omega⟩
 case round=>
  obtain⟨k,hk1,rfl,HA⟩:=hrel
  by_cases hlt:k<s.size
  ·have hin:M.inn (s.extract k (k+1)).data.toList t.data.toList=p s[k].toNat:=by rw[one_byte s k hlt,M.Zw6];exact hset.out _
   have cI:∀ wx,Calls Tryz.prog 102 #[.string (s.extract k (k+1)),.string t] wx fun e w'=>e=.returned (.bool (p s[k].toNat))/\w'=wx:=fun wx=>by
    rw[<-hin];exact Zzi _ t wx (by have:=ext_size s k (k+1);omega)
   clear hin
   by_cases hp:p s[k].toNat=true
   ·go_wp2_with (go_at_call 102;refine(cI _).mono ?_;rintro e w' ⟨rfl,rfl⟩)
    go_round
    case rel=>
     refine⟨k+1,by omega,by go_num,fun j hj hjk=>?_⟩
     by_cases hjk':j<k
     ·exact HA.out j hj hjk'
     ·obtain rfl:j=k:=by omega
      exact hp
    case measure=>simp[intOf];omega
   ·have hp':p s[k].toNat=false:=by simpa using hp
    have HP:Hid (p s[k].toNat=false):=hp'
    clear hp
    go_wp2_with (go_at_call 102;refine(cI _).mono ?_;rintro e w' ⟨rfl,rfl⟩)
    go_ret
    exact⟨Zad (by unfold Zg5 M.made;rw[Ybc (by simpa using hlt) HP.out];rfl),rfl⟩
  ·have HF:Hid (s.data.toList.all (fun b=>p b.toNat)=true):=Yae fun j hj=>HA.out j hj (by simp at hj;omega)
   by_cases h1:least<=s.size
   ·by_cases h2:(s.size:Int)<=most
    ·go_wp2
     go_ret
     exact⟨Zad (by unfold Zg5 M.made;rw[HF.out];simp;omega),rfl⟩
    ·go_wp2
     go_ret
     exact⟨Zad (by unfold Zg5 M.made;rw[HF.out];simp;omega),rfl⟩
   ·go_wp2
    go_ret
    exact⟨Zad (by unfold Zg5 M.made;rw[HF.out];simp;omega),rfl⟩
def Zz3:ByteArray:=⟨#[97,98,99,100,101,102,103,104,105,106,107,108,109,110,111,112,113,114,115,116,117,118,119,120,121,122]⟩
def digitT:ByteArray:=⟨#[48,49,50,51,52,53,54,55,56,57]⟩
def Ybl:ByteArray:=⟨#[97,98,99,100,101,102,103,104,105,106,107,108,109,110,111,112,113,114,115,116,117,118,119,120,121,122,48,49,50,51,52,53,54,55,56,57,45]⟩
def verT:ByteArray:=⟨#[97,98,99,100,101,102,103,104,105,106,107,108,109,110,111,112,113,114,115,116,117,118,119,120,121,122,65,66,67,68,69,70,71,72,73,74,75,76,77,78,79,80,81,82,83,84,85,86,87,88,89,90,48,49,50,51,52,53,54,55,56,57,46,43,45,126]⟩
def partT:ByteArray:=⟨#[97,98,99,100,101,102,103,104,105,106,107,108,109,110,111,112,113,114,115,116,117,118,119,120,121,122,48,49,50,51,52,53,54,55,56,57,46,95]⟩
theorem Zoz(t:List UInt8)(p:Int->Bool)(h:∀ n:Nat,n<256->t.contains (UInt8.ofNat n)=p n)(b:UInt8):t.contains b=p b.toNat:=by
 have:=h b.toNat b.toNat_lt
 rwa [UInt8.ofNat_toNat] at this
theorem Z6z:Hid (∀ b:UInt8,Zz3.data.toList.contains b=M.Znb b.toNat):=Zoz _ _ (by decide +kernel)
theorem Z33:Hid (∀ b:UInt8,digitT.data.toList.contains b=M.isD b.toNat):=Zoz _ _ (by decide +kernel)
theorem Z80:Hid (∀ b:UInt8,Ybl.data.toList.contains b=M.Zi5 b.toNat):=Zoz _ _ (by decide +kernel)
theorem Yak:Hid (∀ b:UInt8,verT.data.toList.contains b=M.Zv8 b.toNat):=Zoz _ _ (by decide +kernel)
theorem Z9r:Hid (∀ b:UInt8,partT.data.toList.contains b=M.Zf6 b.toNat):=Zoz _ _ (by decide +kernel)
def Ze5(s:ByteArray):Bool:=M.Zfj s.data.toList
def Zh2(s:ByteArray):Bool:=M.Zgz s.data.toList
theorem Z8y{p:Int->Bool}{l:List UInt8}(h:0<l.length):p l[0].toNat=M.Zqp p l:=by
 cases l with
 | nil=>simp at h
 | cons b r=>simp[M.Zqp]
theorem Z6k(s t:ByteArray)(p:Int->Bool)(hset:∀ b:UInt8,t.data.toList.contains b=p b.toNat)(h:0<s.size):M.inn (s.extract 0 1).data.toList t.data.toList=M.Zqp p s.data.toList:=by
 rw[one_byte s 0 h,M.Zw6,hset]
 have h':0<s.data.toList.length:=by simpa using h
 exact Z8y h'
theorem Zee(s:ByteArray)(w:World)(hs:s.size<=1000000):
 Calls Tryz.prog 59 #[.string s] w fun e w'=>e=.returned (.bool (Ze5 s))/\w'=w:=by
 have cM:∀ wx,Calls Tryz.prog 101 #[.string s,.string Ybl,.int .i64 1,.int .i64 12] wx fun e w'=>e=.returned (.bool (Zg5 M.Zi5 1 12 s))/\w'=wx:=fun wx=>
  Zsb Ybl M.Zi5 Z80 1 12 (by decide) (by decide) (by decide) s wx hs
 by_cases h1:Zg5 M.Zi5 1 12 s=true
 ·have h0:0<s.size:=by unfold Zg5 M.made at h1;simp at h1;omega
  have cI:∀ wx,Calls Tryz.prog 102 #[.string (s.extract 0 1),.string Zz3] wx fun e w'=>e=.returned (.bool (M.Zqp M.Znb s.data.toList))/\w'=wx:=fun wx=>by
   rw[<-Z6k s Zz3 M.Znb Z6z.out h0];exact Zzi _ _ wx (by have:=ext_size s 0 1;have:Zz3.size=26:=rfl;omega)
  go_enter Tryz.func59,Tryz.ntmps59
  go_wp2_with (first|(go_at_call 101;refine(cM _).mono ?_;rintro e w' ⟨rfl,rfl⟩)|(go_at_call 102;refine(cI _).mono ?_;rintro e w' ⟨rfl,rfl⟩))
  go_ret
  exact⟨Zad (by unfold Ze5 M.Zfj;unfold Zg5 at h1;rw[h1];rfl),rfl⟩
 ·have h1':Zg5 M.Zi5 1 12 s=false:=by simpa using h1
  clear h1
  go_enter Tryz.func59,Tryz.ntmps59
  go_wp2_with (first|(go_at_call 101;refine(cM _).mono ?_;rintro e w' ⟨rfl,rfl⟩))
  go_ret
  exact⟨Zad (by unfold Ze5 M.Zfj;unfold Zg5 at h1';rw[h1'];rfl),rfl⟩
theorem Ze8(s:ByteArray)(w:World)(hs:s.size<=1000000):
 Calls Tryz.prog 60 #[.string s] w fun e w'=>e=.returned (.bool (Zh2 s))/\w'=w:=by
 have cM:∀ wx,Calls Tryz.prog 101 #[.string s,.string verT,.int .i64 1,.int .i64 16] wx fun e w'=>e=.returned (.bool (Zg5 M.Zv8 1 16 s))/\w'=wx:=fun wx=>
  Zsb verT M.Zv8 Yak 1 16 (by decide) (by decide) (by decide) s wx hs
 by_cases h1:Zg5 M.Zv8 1 16 s=true
 ·have h0:0<s.size:=by unfold Zg5 M.made at h1;simp at h1;omega
  have cI:∀ wx,Calls Tryz.prog 102 #[.string (s.extract 0 1),.string digitT] wx fun e w'=>e=.returned (.bool (M.Zqp M.isD s.data.toList))/\w'=wx:=fun wx=>by
   rw[<-Z6k s digitT M.isD Z33.out h0];exact Zzi _ _ wx (by have:=ext_size s 0 1;have:digitT.size=10:=rfl;omega)
  go_enter Tryz.func60,Tryz.ntmps60
  go_wp2_with (first|(go_at_call 101;refine(cM _).mono ?_;rintro e w' ⟨rfl,rfl⟩)|(go_at_call 102;refine(cI _).mono ?_;rintro e w' ⟨rfl,rfl⟩))
  go_ret
  exact⟨Zad (by unfold Zh2 M.Zgz;unfold Zg5 at h1;rw[h1];rfl),rfl⟩
 ·have h1':Zg5 M.Zv8 1 16 s=false:=by simpa using h1
  clear h1
  go_enter Tryz.func60,Tryz.ntmps60
  go_wp2_with (first|(go_at_call 101;refine(cM _).mono ?_;rintro e w' ⟨rfl,rfl⟩))
  go_ret
  exact⟨Zad (by unfold Zh2 M.Zgz;unfold Zg5 at h1';rw[h1'];rfl),rfl⟩
def Zb9(s t:ByteArray):Bool:=M.begins s.data.toList t.data.toList
theorem Zhh(s t:ByteArray)(w:World):
 Calls Tryz.prog 61 #[.string s,.string t] w fun e w'=>e=.returned (.bool (Zb9 s t))/\w'=w:=by
 have e:Zb9 s t=(decide (t.size<=s.size) && ((s.extract 0 t.size).toList == t.toList)):=by
  unfold Zb9 M.begins
  rw[Lib.toList_data,Lib.toList_data,Zc2]
  simp
 by_cases h1:t.size<=s.size
 ·have HE:Hid (Zb9 s t=((s.extract 0 t.size).toList == t.toList)):=by show _ = _;rw[e];simp[h1]
  clear e
  go_enter Tryz.func61,Tryz.ntmps61
  go_wp2
  go_ret
  exact⟨Zad HE.out.symm,rfl⟩
 ·have HE:Hid (Zb9 s t=false):=by show _ = _;rw[e];simp[h1]
  clear e
  go_enter Tryz.func61,Tryz.ntmps61
  go_wp2
  go_ret
  exact⟨Zad HE.out.symm,rfl⟩
def Zho(a b:ByteArray):Bool:=M.over a.data.toList b.data.toList
theorem Zsn(a b:ByteArray)(w:World)(ha:a.size<=1000000):
 Calls Tryz.prog 64 #[.string a,.string b] w fun e w'=>e=.returned (.bool (Zho a b))/\w'=w:=by
 go_enter Tryz.func64,Tryz.ntmps64
 go_wp2_with (go_at_call 61;refine(Zhh _ _ _).mono ?_;rintro e w' ⟨rfl,rfl⟩)
 go_ret
 refine⟨Zad ?_,rfl⟩
 unfold Zb9 Zho M.over
 rw[ByteArray.data_append];simp
theorem Zco:(Tryz.prog.info? 9).map (fun i=>(i.zero,i.size,i.bytes))=some (some (.string ⟨#[]⟩),1,16):=by kernel_rfl
def Zbe(l:List UInt8):Value:=.string ⟨l.toArray⟩
def Zeh(s sep:ByteArray):List (List UInt8):=M.Zcn s.data.toList sep.data.toList
theorem Z0s(s:ByteArray)(a b:Nat):Value.string (s.extract a b)=Zbe ((s.data.toList.drop a).take (b-a)):=by unfold Zbe;rw[Lib.extract_eq]
def Zo8(s sep:ByteArray)(os:List (List UInt8))(from' i:Nat):Prop:=
 from'<=i/\i<=s.size/\os.length<=i/\Zeh s sep=os++M.Zjz sep.data.toList (s.size-i) ((s.data.toList.drop from').take (i-from')) (s.data.toList.drop i)
theorem Zuk(s sep:ByteArray):Zo8 s sep [] 0 0:=⟨Nat.le_refl _,Nat.zero_le _,Nat.zero_le _,by unfold Zeh M.Zcn;simp⟩
theorem Z19{s sep:ByteArray}{os:List (List UInt8)}{f i:Nat}(h:Zo8 s sep os f i)(hs:0<sep.size)(hi:i+sep.size<=s.size)(ht:((s.extract i (i+sep.size)).toList == sep.toList)=true):
 Zo8 s sep (os++[(s.data.toList.drop f).take (i-f)]) (i+sep.size) (i+sep.size):=by
 obtain⟨h1,h2,h3,h4⟩:=h
 have hs':0<sep.data.toList.length:=by simpa using hs
 rw[Lib.toList_data,Lib.toList_data,Lib.extract_data,beq_iff_eq] at ht
 have e:i+sep.size-i=sep.data.toList.length:=by simp
 rw[e] at ht
 refine⟨Nat.le_refl _,by omega,by simp;omega,?_⟩
 rw[h4,M.Zsw hs' _ (s.size-(i+sep.size)) _ _ (by simp) (by simp only[List.length_drop,Array.length_toList,ByteArray.size_data];omega) (by simp;omega) ht]
 simp[List.drop_drop]
theorem Zyh{s sep:ByteArray}{os:List (List UInt8)}{f i:Nat}(h:Zo8 s sep os f i)(hs:0<sep.size)(hi:i+sep.size<=s.size)(ht:((s.extract i (i+sep.size)).toList == sep.toList)=false):
 Zo8 s sep os f (i+1):=by
 obtain⟨h1,h2,h3,h4⟩:=h
 have hs':0<sep.data.toList.length:=by simpa using hs
 rw[Lib.toList_data,Lib.toList_data,Lib.extract_data,beq_eq_false_iff_ne] at ht
 have e:i+sep.size-i=sep.data.toList.length:=by simp
 rw[e] at ht
 refine⟨by omega,by omega,by omega,?_⟩
 rw[h4,M.Zip hs' _ (s.size-(i+1)) _ _ (by simp) (by simp only[List.length_drop,Array.length_toList,ByteArray.size_data];omega) (by simp;omega) ht]
 have e2:(s.data.toList.drop f).take (i+1-f)=(s.data.toList.drop f).take (i-f)++(s.data.toList.drop i).take 1:=by
  rw[show i+1-f=(i-f)+1 by omega,List.take_add,List.drop_drop,show f+(i-f)=i by omega]
 rw[e2,List.drop_drop]
theorem Z08{s sep:ByteArray}{os:List (List UInt8)}{f i:Nat}(h:Zo8 s sep os f i)(hi:s.size<i+sep.size):
 Zeh s sep=os++[s.data.toList.drop f]:=by
 obtain⟨h1,h2,h3,h4⟩:=h
 rw[h4,M.Zie _ _ _ (by simp;omega)]
 congr 2
 conv=>rhs;rw[<-List.take_append_drop (i-f) (s.data.toList.drop f)]
 rw[List.drop_drop,show f+(i-f)=i by omega]
theorem Yag(s sep:ByteArray)(w:World)(hs:0<sep.size)(hl:s.size<=1000000)(hl2:sep.size<=1000):
 Calls Tryz.prog 36 #[.string s,.string sep] w fun e w'=>∃ v,e=.returned v/\w'.ownsRow w.heap.size 9 1 v (Zeh s sep).length ((Zeh s sep).map Zbe)/\Below w.heap.size w w':=by
 obtain⟨i0,hi0,hz0,hz1,hz2⟩:=info_parts Zco
 go_enter Tryz.func36,Tryz.ntmps36
 go_wp2
 go_loopw [5,6,7] (fun v f i wr=>∃ (os:List (List UInt8)) (fn k:Nat),f=.int .i64 fn/\i=.int .i64 k/\wr.ownsRow w.heap.size 9 1 v os.length (os.map Zbe)/\Below w.heap.size w wr/\fn<=k/\k<=s.size/\os.length<=k/\Hid (Zo8 s sep os fn k)) (fun _ _ i _=>s.size-(intOf i).toNat)
 case atStart=>exact⟨[],0,0,rfl,rfl,World.ownsRow_nil _ _ _ _,Below.refl _ _,Nat.le_refl _,Nat.zero_le _,Nat.zero_le _,Zuk s sep⟩
 case round=>
  obtain⟨os,fn,k,rfl,rfl,qV,hB,hfk,hks,hok,HR⟩:=hrel
  have hsz:=hB.size
  by_cases hlt:k+sep.size<=s.size
  ·by_cases hm:((s.extract k (k+sep.size)).toList == sep.toList)=true
   ·have HM:Hid (((s.extract k (k+sep.size)).toList == sep.toList)=true):=hm
    go_wp2_with (at_builtin;refine wpList_append_own _ rfl _ _ 43 rfl w.heap.size 9 i0 (.string ⟨#[]⟩) 1 16 Tryz.underlying43 hi0 hz0 hz1 hz2 rfl (by decide) _ _ _ rfl (qV.alloc _) ⟨wr.heap.size,0,none⟩ 1 1 [.string (s.extract fn k)] rfl rfl ?c1 ?c2 ?c3 ?c4 ?c5 ?_)
    case c1=>exact Zca _ _ _
    case c2=>intro u hu;simp at hu;subst hu;rfl
    case c3=>unfold maxLen;omega
    case c4=>omega
    case c5=>simp;omega
    intro v' w1 hown' hgrow _
    have R1:w1.ownsRow w.heap.size 9 1 v' (os++[(s.data.toList.drop fn).take (k-fn)]).length ((os++[(s.data.toList.drop fn).take (k-fn)]).map Zbe):=by
     rw[Z0s] at hown';simpa using hown'
    have R2:=Zrb hB hsz qV hgrow
    clear hown' hgrow qV
    go_wp2
    go_roundw
    case rel=>exact⟨_,k+sep.size,k+sep.size,by go_num,by go_num,R1,R2,Nat.le_refl _,hlt,by simp;omega,Z19 HR.out hs hlt HM.out⟩
    case measure=>simp[intOf];omega
   ·have hm':((s.extract k (k+sep.size)).toList == sep.toList)=false:=by simpa using hm
    have HM:Hid (((s.extract k (k+sep.size)).toList == sep.toList)=false):=hm'
    clear hm
    go_wp2
    go_roundw
    case rel=>exact⟨_,fn,k+1,rfl,by go_num,qV,hB,by omega,by omega,by omega,Zyh HR.out hs hlt HM.out⟩
    case measure=>simp[intOf];omega
  ·go_wp2_with (at_builtin;refine wpList_append_own _ rfl _ _ 43 rfl w.heap.size 9 i0 (.string ⟨#[]⟩) 1 16 Tryz.underlying43 hi0 hz0 hz1 hz2 rfl (by decide) _ _ _ rfl (qV.alloc _) ⟨wr.heap.size,0,none⟩ 1 1 [.string (s.extract fn s.size)] rfl rfl ?c1 ?c2 ?c3 ?c4 ?c5 ?_)
   case c1=>exact Zca _ _ _
   case c2=>intro u hu;simp at hu;subst hu;rfl
   case c3=>unfold maxLen;omega
   case c4=>omega
   case c5=>simp;omega
   intro v' w1 hown' hgrow _
   have HE:Hid (Zeh s sep=os++[s.data.toList.drop fn]):=Z08 HR.out (by omega)
   have R1:w1.ownsRow w.heap.size 9 1 v' (Zeh s sep).length ((Zeh s sep).map Zbe):=by
    rw[HE.out]
    rw[Z0s,List.take_of_length_le (by simp)] at hown'
    simpa using hown'
   have R2:=Zrb hB hsz qV hgrow
   clear hown' hgrow qV HE
   go_wp2
   go_ret
   exact⟨_,rfl,R1,R2⟩
end Go.Proofs.YtgnfknjopafngaaGreatDoor
