import Derived.Test.YtgnfknjopafngabGreatDoorKnb
set_option maxRecDepth 100000
set_option maxHeartbeats 1000000
namespace Go.Proofs.YtgnfknjopafngabGreatDoor
namespace M
def fitsS(c:Ch)(p:Pk):Bool:=
 if c.name=p.name then
  (if c.sign=[60,60] then decide (verC p.ver c.ver<0)
  else if c.sign=[60,61] then decide (verC p.ver c.ver<=0)
  else if c.sign=[61] then decide (verC p.ver c.ver=0)
  else if c.sign=[62,61] then decide (0<=verC p.ver c.ver)
  else if c.sign=[62,62] then decide (0<verC p.ver c.ver)
  else true)
 else false
def any1S(g:List Ch)(l:List Pk):Bool:=g.any fun c=>l.any fun p=>fitsS c p
def firstS(a b:List UInt8):List UInt8:=if a=[]\/(b≠[]/\Op.bytesLess b a=true) then b else a
def findS(l:List Pk)(n:List UInt8):Int:=match l.findIdx? (fun p=>p.name == n) with
 | some i=>i
 | none=>-1
def lackG(l:List Pk)(nm:List UInt8)(n:List UInt8)(g:List Ch):List UInt8:=if any1S g l=true then n else firstS n nm
def lackP(l:List Pk)(n:List UInt8)(p:Pk):List UInt8:=p.needs.foldl (lackG l p.name) n
def lackingS(l:List Pk):List UInt8:=l.foldl (lackP l) []
def barG(l:List Pk)(i:Nat)(p:Pk)(n:List UInt8)(k:Nat):List UInt8:=match l[k]? with
 | none=>n
 | some q=>if any1S p.bars [q]=true/\k≠i then firstS n p.name else n
def barP(l:List Pk)(n:List UInt8)(i:Nat):List UInt8:=match l[i]? with
 | none=>n
 | some p=>(List.range l.length).foldl (barG l i p) n
def barringS(l:List Pk):List UInt8:=(List.range l.length).foldl (barP l) []
def clB(i k:Nat)(p:List UInt8)(n:List UInt8)(g:Fl):List UInt8:=if over p g.path=true\/(p=g.path/\i≠k) then firstS n p else n
def clA(i k:Nat)(fs:List Fl)(n:List UInt8)(f:Fl):List UInt8:=fs.foldl (clB i k f.path) n
def clK(l:List Pk)(i:Nat)(p:Pk)(n:List UInt8)(k:Nat):List UInt8:=match l[k]? with
 | none=>n
 | some q=>p.files.foldl (clA i k q.files) n
def clI(l:List Pk)(n:List UInt8)(i:Nat):List UInt8:=match l[i]? with
 | none=>n
 | some p=>(List.range l.length).foldl (clK l i p) n
def clashingS(l:List Pk):List UInt8:=(List.range l.length).foldl (clI l) []
def waitsG(p q:Pk)(there:List Pk)(g:List Ch):Bool:=!any1S g there && (!any1S g [p] && any1S g [q])
def waitsS(p q:Pk)(there:List Pk):Bool:=p.needs.any (waitsG p q there)
def holdsS(l there:List Pk)(i:Nat)(p:Pk)(f:Bool)(k:Nat):Bool:=match l[k]? with
 | none=>f
 | some q=>if waitsS p q there=true/\k≠i then false else f
def freeS(l there:List Pk)(i:Nat)(p:Pk):Bool:=(List.range l.length).foldl (holdsS l there i p) true
def readyI(l there:List Pk)(n:List UInt8)(i:Nat):List UInt8:=match l[i]? with
 | none=>n
 | some p=>if freeS l there i p=true then firstS n p.name else n
def readyS(l there:List Pk):List UInt8:=(List.range l.length).foldl (readyI l there) []
def orderS(there:List Pk):Nat->List Pk->List (List UInt8)->List (List UInt8) × List Pk
 | 0,l,out=>(out,l)
 | f+1,l,out=>if readyS l there=[] then (out,l) else match l.findIdx? (fun p=>p.name == readyS l there) with
  | none=>(out,l)
  | some k=>orderS there f (l.take k++l.drop (k+1)) (out++[readyS l there])
theorem firstS_or(a b:List UInt8):firstS a b=a\/firstS a b=b:=by
 unfold firstS
 by_cases h:a=[]\/(b≠[]/\Op.bytesLess b a=true)
 ·rw[if_pos h];exact .inr rfl
 ·rw[if_neg h];exact .inl rfl
theorem ready_mem(l there:List Pk)(n:Nat):(List.range n).foldl (readyI l there) []=[]\/∃ p∈l,p.name=(List.range n).foldl (readyI l there) []:=by
 induction n with
 | zero=>exact .inl rfl
 | succ n ih=>
  rw[List.range_succ,List.foldl_append]
  generalize (List.range n).foldl (readyI l there) []=a at ih
  show readyI l there a n=[]\/∃ p∈l,p.name=readyI l there a n
  unfold readyI
  cases h:l[n]? with
  | none=>exact ih
  | some p=>
   dsimp only
   by_cases hf:freeS l there n p=true
   ·rw[if_pos hf]
    rcases firstS_or a p.name with e|e
    ·rw[e];exact ih
    ·rw[e];exact .inr ⟨p,List.mem_of_getElem? h,rfl⟩
   ·rw[if_neg hf];exact ih
theorem ready_find{l there:List Pk}(h:readyS l there≠[]):∃ k,k<l.length/\l.findIdx? (fun p=>p.name == readyS l there)=some k:=by
 rcases ready_mem l there l.length with e|⟨p,hp,e⟩
 ·exact absurd e h
 ·cases hf:l.findIdx? (fun p=>p.name == readyS l there) with
  | none=>
   have:=List.findIdx?_eq_none_iff.1 hf p hp
   rw[e] at this
   simp[readyS] at this
  | some k=>exact⟨k,(List.findIdx?_eq_some_iff_getElem.1 hf).1,rfl⟩
theorem order_step{l there:List Pk}{out:List (List UInt8)}{k:Nat}(h:readyS l there≠[])(hk:k<l.length)(hf:l.findIdx? (fun p=>p.name == readyS l there)=some k):
 orderS there l.length l out=orderS there (l.take k++l.drop (k+1)).length (l.take k++l.drop (k+1)) (out++[readyS l there]):=by
 obtain⟨n,hn⟩:∃ n,l.length=n+1:=⟨l.length-1,by omega⟩
 have e:(l.take k++l.drop (k+1)).length=n:=by rw[List.length_append,List.length_take,List.length_drop];omega
 rw[e,hn]
 conv=>lhs;unfold orderS
 rw[if_neg h,hf]
end M
end Go.Proofs.YtgnfknjopafngabGreatDoor
namespace Go.Proofs.YtgnfknjopafngabGreatDoor
open Go.RowKit
theorem isNoDigit_any(c:Int)(w:World):
 Calls Tryz.prog 57 #[.int .u8 c] w fun e w'=>e=.returned (.bool (M.isNo c))/\w'=w:=by
 go_enter Tryz.func57,Tryz.ntmps57
 go_wp2_with (go_at_call 59;refine(isDigit_any _ _).mono ?_;rintro e w' ⟨rfl,rfl⟩)
 go_ret
 exact⟨rfl,rfl⟩
theorem leadNo_any(s:ByteArray)(w:World)(hs:s.size<=maxLen):
 Calls Tryz.prog 56 #[.string s,.func (.func 57) #[] #[]] w fun e w'=>e=.returned (.int .i64 (M.lead M.isNo s.data.toList))/\w'=w:=
 lead_any 57 M.isNo (enters_of Tryz.func57 (by kernel_rfl) rfl) isNoDigit_any s w hs
theorem leadD_any(s:ByteArray)(w:World)(hs:s.size<=maxLen):
 Calls Tryz.prog 56 #[.string s,.func (.func 59) #[] #[]] w fun e w'=>e=.returned (.int .i64 (M.lead M.isD s.data.toList))/\w'=w:=
 lead_any 59 M.isD (enters_of Tryz.func59 (by kernel_rfl) rfl) isDigit_any s w hs
theorem isNaN_any(c:Int)(w:World):
 Calls Tryz.prog 148 #[.int .i64 c] w fun e w'=>e=.returned (.bool false)/\w'=w:=by
 go_enter Tryz.func148,Tryz.ntmps148
 go_wp2
 go_ret
 exact⟨ret_bool (by simp),rfl⟩
theorem cmpInt_any(x y:Int)(w:World):
 Calls Tryz.prog 103 #[.int .i64 x,.int .i64 y] w fun e w'=>e=.returned (.int .i64 (M.cmpI x y))/\w'=w:=by
 by_cases h1:x<y
 ·go_enter Tryz.func103,Tryz.ntmps103
  go_wp2_with (go_at_call 148;refine(isNaN_any _ _).mono ?_;rintro e w' ⟨rfl,rfl⟩)
  go_ret
  exact⟨ret_int (by unfold M.cmpI;rw[if_pos h1]),rfl⟩
 ·by_cases h2:y<x
  ·go_enter Tryz.func103,Tryz.ntmps103
   go_wp2_with (go_at_call 148;refine(isNaN_any _ _).mono ?_;rintro e w' ⟨rfl,rfl⟩)
   go_ret
   exact⟨ret_int (by unfold M.cmpI;rw[if_neg (by omega),if_pos h2]),rfl⟩
  ·go_enter Tryz.func103,Tryz.ntmps103
   go_wp2_with (go_at_call 148;refine(isNaN_any _ _).mono ?_;rintro e w' ⟨rfl,rfl⟩)
   go_ret
   exact⟨ret_int (by unfold M.cmpI;rw[if_neg (by omega),if_neg (by omega)]),rfl⟩
theorem ranks_get(s:ByteArray)(k:Nat)(h:k<s.size):(M.ranks s.data.toList).getD k 0=M.rk s[k].toNat:=by
 unfold M.ranks
 have h':k<s.data.toList.length:=by simpa using h
 rw[List.getD_eq_getElem?_getD,List.getElem?_map,List.getElem?_eq_getElem h']
 rfl
theorem ranks_end(s:ByteArray)(k:Nat)(h:s.size<=k):(M.ranks s.data.toList).getD k 0=0:=by
 unfold M.ranks
 have h':s.data.toList.length<=k:=by simpa using h
 rw[List.getD_eq_getElem?_getD,List.getElem?_eq_none (by simpa using h')]
 rfl
theorem rank_end(s:ByteArray)(k:Nat)(w:World)(h:s.size<=k):
 Calls Tryz.prog 104 #[.string s,.int .i64 k] w fun e w'=>e=.returned (.int .i64 0)/\w'=w:=by
 go_enter Tryz.func104,Tryz.ntmps104
 go_wp2
 go_ret
 exact⟨rfl,rfl⟩
theorem rank_in(s:ByteArray)(k:Nat)(w:World)(h:k<s.size):
 Calls Tryz.prog 104 #[.string s,.int .i64 k] w fun e w'=>e=.returned (.int .i64 (M.rk s[k].toNat))/\w'=w:=by
 have hb:=s[k].toNat_lt
 by_cases h1:(s[k].toNat:Int)=126
 ·have h1':((s[k].toNat:Int) == 126)=true:=by simpa using h1
  have H1:=hid h1
  clear h1
  go_enter Tryz.func104,Tryz.ntmps104
  go_wp2
  go_ret
  exact⟨ret_int (by unfold M.rk;rw[if_pos H1.out]),rfl⟩
 ·have h1':((s[k].toNat:Int) == 126)=false:=by simpa using h1
  have H1:=hid h1
  clear h1
  by_cases h2:M.isLt s[k].toNat=true
  ·go_enter Tryz.func104,Tryz.ntmps104
   go_wp2_with (go_at_call 149;refine(isLetter_any _ _).mono ?_;rintro e w' ⟨rfl,rfl⟩)
   go_ret
   exact⟨ret_int (by unfold M.rk;rw[if_neg H1.out,if_pos h2]),rfl⟩
  ·have h2':M.isLt s[k].toNat=false:=by simpa using h2
   clear h2
   go_enter Tryz.func104,Tryz.ntmps104
   go_wp2_with (go_at_call 149;refine(isLetter_any _ _).mono ?_;rintro e w' ⟨rfl,rfl⟩)
   go_ret
   exact⟨ret_int (by unfold M.rk;rw[if_neg H1.out,h2'];simp),rfl⟩
theorem rank_any(s:ByteArray)(k:Nat)(w:World):
 Calls Tryz.prog 104 #[.string s,.int .i64 k] w fun e w'=>e=.returned (.int .i64 (M.rkAt s.data.toList k))/\w'=w:=by
 unfold M.rkAt
 by_cases h:k<s.size
 ·rw[ranks_get s k h];exact rank_in s k w h
 ·rw[ranks_end s k (by omega)];exact rank_end s k w (by omega)
theorem words_any(a b:ByteArray)(w:World)(ha:a.size<=maxLen)(hb:b.size<=maxLen):
 Calls Tryz.prog 58 #[.string a,.string b] w fun e w'=>e=.returned (.int .i64 (M.wordC a.data.toList b.data.toList))/\w'=w:=by
 unfold maxLen at ha hb
 go_enter Tryz.func58,Tryz.ntmps58
 go_wp2
 go_loop [5,6,12] (fun _ _ c=>∃ k:Nat,(k:Int)<=max (a.size:Int) (b.size:Int)/\c=.int .i64 k/\∀ j,j<k->M.rkAt a.data.toList j=M.rkAt b.data.toList j) (fun _ _ c=>(max (a.size:Int) (b.size:Int)-intOf c).toNat)
 case atStart=>exact⟨0,by omega,rfl,fun j h=>by omega⟩
 case round=>
  obtain⟨k,hk1,rfl,hj⟩:=hrel
  have HJ:=hid hj
  clear hj
  by_cases hlt:(k:Int)<max (a.size:Int) (b.size:Int)
  ·by_cases hd:M.cmpI (M.rkAt a.data.toList k) (M.rkAt b.data.toList k)=0
   ·have hd':(M.cmpI (M.rkAt a.data.toList k) (M.rkAt b.data.toList k) != 0)=false:=by simpa using hd
    have HD:=hid hd
    clear hd
    go_wp2_with (first|(go_at_call 104;refine(rank_any _ _ _).mono ?_;rintro e w' ⟨rfl,rfl⟩)|(go_at_call 103;refine(cmpInt_any _ _ _).mono ?_;rintro e w' ⟨rfl,rfl⟩))
    go_round
    case rel=>
     refine⟨k+1,by omega,by go_num,fun j hj=>?_⟩
     by_cases hjk:j<k
     ·exact HJ.out j hjk
     ·obtain rfl:j=k:=by omega
      exact M.cmpI_zero.mp HD.out
    case measure=>simp[intOf];omega
   ·have hd':(M.cmpI (M.rkAt a.data.toList k) (M.rkAt b.data.toList k) != 0)=true:=by simpa using hd
    have HD:=hid hd
    clear hd
    go_wp2_with (first|(go_at_call 104;refine(rank_any _ _ _).mono ?_;rintro e w' ⟨rfl,rfl⟩)|(go_at_call 103;refine(cmpInt_any _ _ _).mono ?_;rintro e w' ⟨rfl,rfl⟩))
    go_ret
    exact⟨ret_int (M.wordC_diff HJ.out HD.out).symm,rfl⟩
  ·go_wp2
   go_ret
   exact⟨ret_int (M.wordC_same HJ.out (by simp;omega) (by simp;omega)).symm,rfl⟩
theorem trimByte_any(s:ByteArray)(w:World):
 Calls Tryz.prog 150 #[.string s,.int .u8 48] w fun e w'=>e=.returned (.string ⟨(M.strip s.data.toList).toArray⟩)/\w'=w:=by
 go_enter Tryz.func150,Tryz.ntmps150
 go_wp2
 go_loop [0] (fun v=>∃ t:ByteArray,v=.string t/\t.size<=s.size/\M.strip t.data.toList=M.strip s.data.toList) (fun v=>lenOf v)
 case atStart=>exact⟨s,rfl,Nat.le_refl _,rfl⟩
 case round=>
  obtain⟨t,rfl,hts,ht⟩:=hrel
  have HT:=hid ht
  clear ht
  by_cases h0:0<t.size
  ·by_cases h1:(t[0].toNat:Int)=48
   ·have h1':((t[0].toNat:Int) == 48)=true:=by simpa using h1
    have H1:=hid h1
    clear h1
    go_wp2
    go_round
    case rel=>
     refine⟨_,rfl,?_,?_⟩
     ·have:=ext_size t 1 t.size;omega
     ·rw[ext_from,<-HT.out]
      exact M.strip_nought (by simpa using h0) (by have:=H1.out;show t[0].toNat=48;omega)
    case measure=>simp[lenOf];omega
   ·have h1':((t[0].toNat:Int) == 48)=false:=by simpa using h1
    have H1:=hid h1
    clear h1
    go_wp2
    go_ret
    refine⟨ret_str ?_,rfl⟩
    refine bytes_of ?_
    show t.data.toList = _
    rw[mk_toList,<-HT.out,M.strip_stop (by simpa using h0) (by have:=H1.out;show ¬ t[0].toNat=48;omega)]
  ·go_wp2
   go_ret
   refine⟨ret_str ?_,rfl⟩
   refine bytes_of ?_
   show t.data.toList = _
   rw[mk_toList,<-HT.out,M.strip_nil (by simpa using h0)]
theorem trimLeft_any(s:ByteArray)(w:World):
 Calls Tryz.prog 105 #[.string s,.string ⟨#[48]⟩] w fun e w'=>e=.returned (.string ⟨(M.strip s.data.toList).toArray⟩)/\w'=w:=by
 by_cases h0:s.toList.isEmpty=true
 ·go_enter Tryz.func105,Tryz.ntmps105
  go_wp2
  go_ret
  refine⟨ret_str (bytes_of ?_),rfl⟩
  show s.data.toList = _
  rw[Lib.toList_data] at h0
  rw[mk_toList,M.strip_nil (by simp at h0;simp[h0])]
 ·have h0':s.toList.isEmpty=false:=by simpa using h0
  clear h0
  go_enter Tryz.func105,Tryz.ntmps105
  go_wp2_with (go_at_call 150;refine(trimByte_any _ _).mono ?_;rintro e w' ⟨rfl,rfl⟩)
  go_ret
  exact⟨rfl,rfl⟩
theorem bytealg_any(a b:ByteArray)(w:World):
 Calls Tryz.prog 154 #[.string a,.string b] w fun e w'=>e=.returned (.int .i64 (Lib.compareBytes a.data.toList b.data.toList))/\w'=w:=by
 go_enter Tryz.func154,Tryz.ntmps154
 go_wp2
 rw[run_callFunc_extern Tryz.func205 (by kernel_rfl) (by kernel_rfl) (by kernel_rfl) (e:=Extern.BytealgCompare.compare) (by kernel_rfl),Lib.run_compareString]
 simp only[Result.andThen]
 rw[Oper.upon_value]
 go_wp2
 go_ret
 exact⟨rfl,rfl⟩
theorem scompare_any(a b:ByteArray)(w:World):
 Calls Tryz.prog 106 #[.string a,.string b] w fun e w'=>e=.returned (.int .i64 (Lib.compareBytes a.data.toList b.data.toList))/\w'=w:=by
 go_enter Tryz.func106,Tryz.ntmps106
 go_wp2_with (go_at_call 154;refine(bytealg_any _ _ _).mono ?_;rintro e w' ⟨rfl,rfl⟩)
 go_ret
 exact⟨rfl,rfl⟩
theorem numbers_any(a b:ByteArray)(w:World):
 Calls Tryz.prog 60 #[.string a,.string b] w fun e w'=>e=.returned (.int .i64 (M.numC a.data.toList b.data.toList))/\w'=w:=by
 by_cases h:M.cmpI (M.strip a.data.toList).length (M.strip b.data.toList).length=0
 ·have h':(M.cmpI (M.strip a.data.toList).length (M.strip b.data.toList).length != 0)=false:=by simpa using h
  have H:=hid h
  clear h
  go_enter Tryz.func60,Tryz.ntmps60
  go_wp2_with (first|(go_at_call 105;refine(trimLeft_any _ _).mono ?_;rintro e w' ⟨rfl,rfl⟩)|(go_at_call 103;refine(cmpInt_any _ _ _).mono ?_;rintro e w' ⟨rfl,rfl⟩)|(go_at_call 106;refine(scompare_any _ _ _).mono ?_;rintro e w' ⟨rfl,rfl⟩))
  go_ret
  refine⟨ret_int ?_,rfl⟩
  unfold M.numC
  rw[if_pos H.out]
 ·have h':(M.cmpI (M.strip a.data.toList).length (M.strip b.data.toList).length != 0)=true:=by simpa using h
  have H:=hid h
  clear h
  go_enter Tryz.func60,Tryz.ntmps60
  go_wp2_with (first|(go_at_call 105;refine(trimLeft_any _ _).mono ?_;rintro e w' ⟨rfl,rfl⟩)|(go_at_call 103;refine(cmpInt_any _ _ _).mono ?_;rintro e w' ⟨rfl,rfl⟩)|(go_at_call 106;refine(scompare_any _ _ _).mono ?_;rintro e w' ⟨rfl,rfl⟩))
  go_ret
  refine⟨ret_int ?_,rfl⟩
  unfold M.numC
  rw[if_neg H.out]
def noB(s:ByteArray):Nat:=M.lead M.isNo s.data.toList
def diB(s:ByteArray):Nat:=M.lead M.isD s.data.toList
def woB(a b:ByteArray):Int:=M.wordC a.data.toList b.data.toList
def nuB(a b:ByteArray):Int:=M.numC a.data.toList b.data.toList
theorem noB_le(x:ByteArray):noB x<=x.size:=by have:=M.lead_le M.isNo x.data.toList;unfold noB;simpa using this
theorem diB_le(x:ByteArray):diB x<=x.size:=by have:=M.lead_le M.isD x.data.toList;unfold diB;simpa using this
theorem leadN_c(s:ByteArray)(w:World)(hs:s.size<=maxLen):
 Calls Tryz.prog 56 #[.string s,.func (.func 57) #[] #[]] w fun e w'=>e=.returned (.int .i64 (noB s))/\w'=w:=leadNo_any s w hs
theorem leadD_c(s:ByteArray)(w:World)(hs:s.size<=maxLen):
 Calls Tryz.prog 56 #[.string s,.func (.func 59) #[] #[]] w fun e w'=>e=.returned (.int .i64 (diB s))/\w'=w:=leadD_any s w hs
theorem words_c(a b:ByteArray)(w:World)(ha:a.size<=maxLen)(hb:b.size<=maxLen):
 Calls Tryz.prog 58 #[.string a,.string b] w fun e w'=>e=.returned (.int .i64 (woB a b))/\w'=w:=words_any a b w ha hb
theorem numbers_c(a b:ByteArray)(w:World):
 Calls Tryz.prog 60 #[.string a,.string b] w fun e w'=>e=.returned (.int .i64 (nuB a b))/\w'=w:=numbers_any a b w
theorem rest_toList(x:ByteArray)(i p:Nat):((x.extract i x.size).extract p (x.size-i)).data.toList=(x.data.toList.drop i).drop p:=by
 rw[Lib.extract_data,ext_from,List.take_of_length_le]
 simp;omega
theorem num_toList(x:ByteArray)(i p:Nat):((x.extract i x.size).extract 0 p).data.toList=(x.data.toList.drop i).take p:=by
 rw[ext_upto,ext_from]
theorem diB_drop(x:ByteArray)(i:Nat):diB (x.extract i x.size)=M.lead M.isD (x.data.toList.drop i):=by unfold diB;rw[ext_from]
theorem round_go(x y:ByteArray)(h:woB (x.extract 0 (noB x)) (y.extract 0 (noB y))=0)
 (k:nuB ((x.extract (noB x) x.size).extract 0 (diB (x.extract (noB x) x.size))) ((y.extract (noB y) y.size).extract 0 (diB (y.extract (noB y) y.size)))=0):
 M.verC x.data.toList y.data.toList=M.verC ((x.extract (noB x) x.size).extract (diB (x.extract (noB x) x.size)) (x.size-noB x)).data.toList ((y.extract (noB y) y.size).extract (diB (y.extract (noB y) y.size)) (y.size-noB y)).data.toList:=by
 unfold woB at h
 unfold nuB at k
 rw[ext_upto,ext_upto] at h
 rw[num_toList,num_toList,diB_drop,diB_drop] at k
 rw[rest_toList,rest_toList,diB_drop,diB_drop,M.verC_round _ _ _ _ (rfl:noB x = _) (rfl:noB y = _),if_pos h,if_pos k]
theorem round_num(x y:ByteArray)(h:woB (x.extract 0 (noB x)) (y.extract 0 (noB y))=0)
 (k:¬ nuB ((x.extract (noB x) x.size).extract 0 (diB (x.extract (noB x) x.size))) ((y.extract (noB y) y.size).extract 0 (diB (y.extract (noB y) y.size)))=0):
 M.verC x.data.toList y.data.toList=nuB ((x.extract (noB x) x.size).extract 0 (diB (x.extract (noB x) x.size))) ((y.extract (noB y) y.size).extract 0 (diB (y.extract (noB y) y.size))):=by
 unfold woB at h
 unfold nuB at k ⊢
 rw[ext_upto,ext_upto] at h
 rw[num_toList,num_toList,diB_drop,diB_drop] at k ⊢
 rw[M.verC_round _ _ _ _ (rfl:noB x = _) (rfl:noB y = _),if_pos h,if_neg k]
theorem one_lt(x:ByteArray)(h:¬ x.toList.isEmpty=true):0<noB x+diB (x.extract (noB x) x.size):=by
 rw[diB_drop]
 rw[Lib.toList_data,List.isEmpty_iff] at h
 have:=M.lead_two h
 show 0<M.lead M.isNo x.data.toList+M.lead M.isD (x.data.toList.drop (M.lead M.isNo x.data.toList))
 omega
theorem two_lt(x y:ByteArray)(h:¬ (x.toList.isEmpty=true/\y.toList.isEmpty=true)):0<noB x+diB (x.extract (noB x) x.size)+(noB y+diB (y.extract (noB y) y.size)):=by
 by_cases hx:x.toList.isEmpty=true
 ·have:=one_lt y (fun hy=>h ⟨hx,hy⟩);omega
 ·have:=one_lt x hx;omega
theorem compareV_any(a b:ByteArray)(w:World)(ha:a.size<=maxLen)(hb:b.size<=maxLen):
 Calls Tryz.prog 32 #[.string a,.string b] w fun e w'=>e=.returned (.int .i64 (M.verC a.data.toList b.data.toList))/\∃ n,w'=w.drewN n:=by
 unfold maxLen at ha hb
 go_enter Tryz.func32,Tryz.ntmps32
 go_wp2
 go_loopw [0,1,5,6,7,8] (fun u v _ _ _ _ wr=>∃ (x y:ByteArray) (n:Nat),u=.string x/\v=.string y/\wr=w.drewN n/\x.size<=a.size/\y.size<=b.size/\M.verC x.data.toList y.data.toList=M.verC a.data.toList b.data.toList) (fun u v _ _ _ _ _=>lenOf u+lenOf v)
 case atStart=>exact⟨a,b,0,rfl,rfl,rfl,Nat.le_refl _,Nat.le_refl _,rfl⟩
 case round=>
  obtain⟨x,y,n,rfl,rfl,rfl,hx,hy,hv⟩:=hrel
  have HV:=hid hv
  clear hv
  have hi:=noB_le x
  have hj:=noB_le y
  by_cases he:x.toList.isEmpty=true/\y.toList.isEmpty=true
  ·obtain⟨hxe,hye⟩:=he
   go_wp2
   go_ret
   exact⟨ret_int (by rw[<-HV.out];rw[Lib.toList_data,List.isEmpty_iff] at hxe hye;rw[hxe,hye];simp[M.verC,M.key_nil,M.lexC]),n,rfl⟩
  ·have HE:Hid (¬ (x.toList.isEmpty=true/\y.toList.isEmpty=true)):=he
   have hor:x.toList.isEmpty=false\/(x.toList.isEmpty=true/\y.toList.isEmpty=false):=by
    by_cases h1:x.toList.isEmpty=true
    ·right;exact⟨h1,by by_cases h2:y.toList.isEmpty=true;exact absurd ⟨h1,h2⟩ he;simpa using h2⟩
    ·left;simpa using h1
   clear he
   have h1:(x.extract 0 (noB x)).size<=maxLen:=by have:=ext_size x 0 (noB x);unfold maxLen;omega
   have h2:(y.extract 0 (noB y)).size<=maxLen:=by have:=ext_size y 0 (noB y);unfold maxLen;omega
   have cW:=fun wx=>words_c _ _ wx h1 h2
   clear h1 h2
   by_cases hw:woB (x.extract 0 (noB x)) (y.extract 0 (noB y))=0
   ·have hw':(woB (x.extract 0 (noB x)) (y.extract 0 (noB y)) != 0)=false:=by simpa using hw
    have HC:=hid hw
    clear hw
    have hp:diB (x.extract (noB x) x.size)<=x.size-noB x:=by have:=diB_le (x.extract (noB x) x.size);simpa using this
    have hq:diB (y.extract (noB y) y.size)<=y.size-noB y:=by have:=diB_le (y.extract (noB y) y.size);simpa using this
    by_cases hn:nuB ((x.extract (noB x) x.size).extract 0 (diB (x.extract (noB x) x.size))) ((y.extract (noB y) y.size).extract 0 (diB (y.extract (noB y) y.size)))=0
    ·have hn':(nuB ((x.extract (noB x) x.size).extract 0 (diB (x.extract (noB x) x.size))) ((y.extract (noB y) y.size).extract 0 (diB (y.extract (noB y) y.size))) != 0)=false:=by simpa using hn
     have HN:=hid hn
     clear hn
     rcases hor with hxe|⟨hxe,hye⟩
     all_goals
      go_wp2_with (go_at_call 56;refine(leadN_c _ _ (by unfold maxLen;omega)).mono ?_;rintro e w' ⟨rfl,rfl⟩)
      go_quiet ((go_at_call 58;go_must (exact quiet_add (cW _))))
      go_wp2
      go_quiet (fail)
      go_wp2_with (go_at_call 56;refine(leadD_c _ _ (by unfold maxLen;simp;omega)).mono ?_;rintro e w' ⟨rfl,rfl⟩)
      go_quiet ((go_at_call 60;go_must (exact quiet_add (numbers_c _ _ _))))
      go_wp2
      go_quiet (fail)
      go_wp2
      go_roundw
      case rel=>
       refine⟨_,_,_,rfl,rfl,drewN_add _ _ _,?_,?_,?_⟩
       ·have:=ext_size (x.extract (noB x) x.size) (diB (x.extract (noB x) x.size)) (x.size-noB x);have:=ext_size x (noB x) x.size;omega
       ·have:=ext_size (y.extract (noB y) y.size) (diB (y.extract (noB y) y.size)) (y.size-noB y);have:=ext_size y (noB y) y.size;omega
       ·rw[<-HV.out,round_go x y HC.out HN.out]
      case measure=>
       have:=two_lt x y HE.out
       simp[lenOf]
       omega
    ·have hn':(nuB ((x.extract (noB x) x.size).extract 0 (diB (x.extract (noB x) x.size))) ((y.extract (noB y) y.size).extract 0 (diB (y.extract (noB y) y.size))) != 0)=true:=by simpa using hn
     have HN:=hid hn
     clear hn
     rcases hor with hxe|⟨hxe,hye⟩
     all_goals
      go_wp2_with (go_at_call 56;refine(leadN_c _ _ (by unfold maxLen;omega)).mono ?_;rintro e w' ⟨rfl,rfl⟩)
      go_quiet ((go_at_call 58;go_must (exact quiet_add (cW _))))
      go_wp2
      go_quiet (fail)
      go_wp2_with (go_at_call 56;refine(leadD_c _ _ (by unfold maxLen;simp;omega)).mono ?_;rintro e w' ⟨rfl,rfl⟩)
      go_quiet ((go_at_call 60;go_must (exact quiet_add (numbers_c _ _ _))))
      go_wp2
      go_ret
      refine⟨ret_int ?_,_,rfl⟩
      rw[<-HV.out,round_num x y HC.out HN.out]
   ·have hw':(woB (x.extract 0 (noB x)) (y.extract 0 (noB y)) != 0)=true:=by simpa using hw
    have HC:=hid hw
    clear hw
    rcases hor with hxe|⟨hxe,hye⟩
    all_goals
     go_wp2_with (go_at_call 56;refine(leadN_c _ _ (by unfold maxLen;omega)).mono ?_;rintro e w' ⟨rfl,rfl⟩)
     go_quiet ((go_at_call 58;go_must (exact quiet_add (cW _))))
     go_wp2
     go_ret
     refine⟨ret_int ?_,_,rfl⟩
     have h:=HC.out
     rw[<-HV.out,M.verC_round _ _ _ _ rfl rfl,<-ext_upto,<-ext_upto]
     exact(if_neg h).symm
def verB(a b:ByteArray):Int:=M.verC a.data.toList b.data.toList
end Go.Proofs.YtgnfknjopafngabGreatDoor
