import Derived.Test.YtgnfknjopafngabGreatDoorKaf
import Derived.Deep.OwnRows
set_option maxRecDepth 100000
set_option maxHeartbeats 8000000
namespace Go.Proofs.YtgnfknjopafngabGreatDoor
open Go.RowKit
def Zce(e:Ending):Prop:=e=.panicked [{ v:=.iface 94 (.int .i64 1),recovered:=false }]
theorem Zfn(w:World):Calls Tryz.prog 62 #[.bool true] w fun e w'=>e=.returned (.tuple #[])/\w'=w:=by
 go_enter Tryz.func62,Tryz.ntmps62
 go_wp2
 exact⟨rfl,.tuple #[],by simp[results,go_sem,Tryz.results62],rfl,rfl⟩
theorem Zes(w:World):Calls Tryz.prog 62 #[.bool false] w fun e w'=>Zce e/\w'=w:=by
 go_enter Tryz.func62,Tryz.ntmps62
 go_wp2
 exact⟨rfl,rfl,rfl⟩
namespace M
theorem Z0k(p:Int->Bool):∀ (l:List UInt8),lead p l=l.length↔l.all (fun b=>p b.toNat)=true
 | []=>by simp[lead]
 | b :: l=>by
  have ih:=Z0k p l
  rw[Zhd]
  by_cases h:p b.toNat=true
  ·rw[if_pos h];simp[h] at ih ⊢;exact ih
  ·rw[if_neg h];simp[h]
theorem Ybh(p:Int->Bool)(m:Nat)(l:List UInt8)(h:l.length=0):made p 1 m l=false:=by unfold made;simp[h]
theorem Yal(p:Int->Bool)(m:Nat)(l:List UInt8)(h:¬ l.length<=m):made p 1 m l=false:=by unfold made;simp[h]
theorem Yar(p:Int->Bool)(m:Nat)(l:List UInt8)(h0:l.length≠0)(h:l.length<=m):made p 1 m l=decide (lead p l=l.length):=by
 unfold made
 rw[decide_eq_true (show 1<=l.length by omega),decide_eq_true h]
 rw[Bool.and_true,Bool.and_true,Bool.eq_iff_iff,decide_eq_true_iff,Z0k]
end M
def Zhu(p:Int->Bool)(m:Nat)(s:ByteArray):Bool:=M.made p 1 m s.data.toList
theorem Zjc(f:FuncId)(p:Int->Bool)(he:∀ args w,(callFunc f args).run Tryz.prog w=.ok (.enter f args) w)
 (hk:∀ c w,Calls Tryz.prog f #[.int .u8 c] w fun e w'=>e=.returned (.bool (p c))/\w'=w) (s:ByteArray) (m:Nat) (w:World) (hs:s.size<=1000000):
 Calls Tryz.prog 211 #[.string s,.int .i64 m,.func (.func f) #[] #[]] w fun e w'=>e=.returned (.bool (Zhu p m s))/\w'=w:=by
 have hle:=M.Zp0 p s.data.toList
 rw[Array.length_toList,ByteArray.size_data] at hle
 have HL0:s.data.toList.length=s.size:=by simp
 obtain⟨n,hn⟩:∃ n,n=M.lead p s.data.toList:=⟨_,rfl⟩
 have cL:=fun w=>Ztl f p he hk s w (by unfold maxLen;omega)
 rw[<-hn] at cL hle
 by_cases h0:s.toList.isEmpty=true
 ·have HB:Hid (Zhu p m s=false):=M.Ybh _ _ _ (by rw[Lib.toList_data,List.isEmpty_iff] at h0;rw[h0];rfl)
  clear hn HL0
  go_enter Tryz.func211,Tryz.ntmps211
  go_wp2_with fail
  go_ret
  exact⟨Zad HB.out.symm,rfl⟩
 ·have h0':s.toList.isEmpty=false:=by simpa using h0
  have hl0:s.size≠0:=by intro e;apply h0;rw[Lib.toList_data,List.isEmpty_iff_length_eq_zero];simpa using e
  by_cases h1:s.size<=m
  ·have h1':(s.size:Int)<=m:=by omega
   have HB:Hid (Zhu p m s=decide ((n:Int)=s.size)):=by
    show _ = _
    unfold Zhu
    rw[M.Yar _ _ _ (by rw[HL0];exact hl0) (by rw[HL0];exact h1),<-hn,HL0]
    rw[decide_eq_decide];omega
   clear hn HL0 h0
   by_cases h2:(n:Int)=s.size
   ·have h2':((n:Int) == s.size)=true:=by simpa using h2
    have HB2:Hid (Zhu p m s=true):=by show _ = _;rw[HB.out];simpa using h2
    clear h2
    go_enter Tryz.func211,Tryz.ntmps211
    go_wp2_with (go_at_call 56;refine(cL _).mono ?_;rintro e w' ⟨rfl,rfl⟩)
    go_ret
    exact⟨Zad HB2.out.symm,rfl⟩
   ·have h2':((n:Int) == s.size)=false:=by simpa using h2
    have HB2:Hid (Zhu p m s=false):=by show _ = _;rw[HB.out];simpa using h2
    clear h2
    go_enter Tryz.func211,Tryz.ntmps211
    go_wp2_with (go_at_call 56;refine(cL _).mono ?_;rintro e w' ⟨rfl,rfl⟩)
    go_ret
    exact⟨Zad HB2.out.symm,rfl⟩
  ·have h1':¬ (s.size:Int)<=m:=by omega
   have HB:Hid (Zhu p m s=false):=M.Yal _ _ _ (by rw[HL0];exact h1)
   clear hn HL0 h0
   go_enter Tryz.func211,Tryz.ntmps211
   go_wp2_with fail
   go_ret
   exact⟨Zad HB.out.symm,rfl⟩
theorem Z3t(c:Int)(w:World):
 Calls Tryz.prog 212 #[.int .u8 c] w fun e w'=>e=.returned (.bool (M.Zi5 c))/\w'=w:=by
 by_cases h1:M.Znb c=true
 ·have HE:Hid (M.Zi5 c=true):=by show _ = _;unfold M.Znb at h1;unfold M.Zi5;simp at h1 ⊢;omega
  go_enter Tryz.func212,Tryz.ntmps212
  go_wp2_with (first|(go_at_call 201;refine(Zc0 _ _).mono ?_;rintro e w' ⟨rfl,rfl⟩)|(go_at_call 59;refine(Zdf _ _).mono ?_;rintro e w' ⟨rfl,rfl⟩))
  go_ret
  exact⟨Zad HE.out.symm,rfl⟩
 ·have h1':M.Znb c=false:=by simpa using h1
  by_cases h2:M.isD c=true
  ·have HE:Hid (M.Zi5 c=true):=by show _ = _;unfold M.isD at h2;unfold M.Zi5;simp at h2 ⊢;omega
   clear h1
   go_enter Tryz.func212,Tryz.ntmps212
   go_wp2_with (first|(go_at_call 201;refine(Zc0 _ _).mono ?_;rintro e w' ⟨rfl,rfl⟩)|(go_at_call 59;refine(Zdf _ _).mono ?_;rintro e w' ⟨rfl,rfl⟩))
   go_ret
   exact⟨Zad HE.out.symm,rfl⟩
  ·have h2':M.isD c=false:=by simpa using h2
   have HE:Hid (M.Zi5 c=(c == 45)):=by
    show _ = _
    unfold M.Znb at h1;unfold M.isD at h2;unfold M.Zi5
    simp only[decide_eq_true_eq] at h1 h2
    rw[Bool.eq_iff_iff,decide_eq_true_eq,beq_iff_eq]
    omega
   clear h1 h2
   go_enter Tryz.func212,Tryz.ntmps212
   go_wp2_with (first|(go_at_call 201;refine(Zc0 _ _).mono ?_;rintro e w' ⟨rfl,rfl⟩)|(go_at_call 59;refine(Zdf _ _).mono ?_;rintro e w' ⟨rfl,rfl⟩))
   go_ret
   exact⟨Zad HE.out.symm,rfl⟩
def Gives(b:Bool)(v:Value)(e:Ending):Prop:=if b=true then e=.returned v else Zce e
theorem Zob{b:Bool}{v:Value}{e:Ending}(hb:b=true)(h:e=.returned v):Gives b v e:=by unfold Gives;rw[if_pos hb];exact h
theorem Zeq{b:Bool}{v:Value}{e:Ending}(hb:b=false)(h:Zce e):Gives b v e:=by unfold Gives;rw[if_neg (by rw[hb];decide)];exact h
def Zg1(s:ByteArray):Bool:=M.Zfj s.data.toList
def Zkt(s:ByteArray):Bool:=M.Zgz s.data.toList
theorem Zz2(p:Int->Bool)(s:ByteArray)(h:0<s.size):M.Zqp p s.data.toList=p s[0].toNat:=by
 cases s with
 | mk a=>
  cases a with
  | mk l=>
   cases l with
   | nil=>exact absurd h (by decide)
   | cons b l=>rfl
theorem Z0a{p:Int->Bool}{m:Nat}{s:ByteArray}(h:Zhu p m s=true):0<s.size:=by
 unfold Zhu M.made at h
 simp only[Bool.and_eq_true,decide_eq_true_eq,Array.length_toList,ByteArray.size_data] at h
 omega
theorem Zl7(s:ByteArray):Zg1 s=(Zhu M.Zi5 12 s && M.Zqp M.Znb s.data.toList):=rfl
theorem Zok(s:ByteArray):Zkt s=(Zhu M.Zv8 16 s && M.Zqp M.isD s.data.toList):=rfl
theorem Zm1(s:ByteArray)(w:World)(hs:s.size<=1000000):
 Calls Tryz.prog 161 #[.string s] w fun e w'=>Gives (Zg1 s) (.string s) e/\w'=w:=by
 have cM:=fun w=>Zjc 212 M.Zi5 (enters_of Tryz.func212 (by kernel_rfl) rfl) Z3t s 12 w hs
 by_cases hm:Zhu M.Zi5 12 s=true
 ·have h0:=Z0a hm
  have cY:=Zfn
  have cN:=Zes
  have hh:=Zz2 M.Znb s h0
  by_cases hd:M.Znb s[0].toNat=true
  ·have HE:Hid (Zg1 s=true):=by show _ = _;rw[Zl7,hm,hh,hd];rfl
   clear hh cN
   go_enter Tryz.func161,Tryz.ntmps161
   go_wp2_with (first|(go_at_call 211;refine(cM _).mono ?_;rintro e w' ⟨rfl,rfl⟩)|(go_at_call 62;refine(cY _).mono ?_;rintro e w' ⟨rfl,rfl⟩)|(go_at_call 201;refine(Zc0 _ _).mono ?_;rintro e w' ⟨rfl,rfl⟩))
   go_ret
   exact⟨Zob HE.out rfl,rfl⟩
  ·have hd':M.Znb s[0].toNat=false:=by simpa using hd
   have HE:Hid (Zg1 s=false):=by show _ = _;rw[Zl7,hm,hh,hd'];rfl
   clear hh hd
   go_enter Tryz.func161,Tryz.ntmps161
   go_wp2_with (first|(go_at_call 211;refine(cM _).mono ?_;rintro e w' ⟨rfl,rfl⟩)|(go_at_call 62;refine(cY _).mono ?_;rintro e w' ⟨rfl,rfl⟩)|(go_at_call 62;refine(cN _).mono ?_;rintro e w' ⟨rfl,rfl⟩)|(go_at_call 201;refine(Zc0 _ _).mono ?_;rintro e w' ⟨rfl,rfl⟩))
   exact⟨rfl,Zeq HE.out rfl,rfl⟩
 ·have hm':Zhu M.Zi5 12 s=false:=by simpa using hm
  have HE:Hid (Zg1 s=false):=by show _ = _;rw[Zl7,hm'];rfl
  have cN:=Zes
  clear hm
  go_enter Tryz.func161,Tryz.ntmps161
  go_wp2_with (first|(go_at_call 211;refine(cM _).mono ?_;rintro e w' ⟨rfl,rfl⟩)|(go_at_call 62;refine(cN _).mono ?_;rintro e w' ⟨rfl,rfl⟩))
  exact⟨rfl,Zeq HE.out rfl,rfl⟩
def Zoj(c:Int):Bool:=decide (c=46\/c=43\/c=45\/c=126)
theorem Z8k(c:Int)(w:World):
 Calls Tryz.prog 214 #[.int .u8 c] w fun e w'=>e=.returned (.bool (Zoj c))/\w'=w:=by
 have HE:Hid (Zoj c=(c == 46 || c == 43 || c == 45 || c == 126)):=by
  show _ = _
  unfold Zoj
  rw[Bool.eq_iff_iff]
  simp[or_assoc]
 by_cases h1:(c == 46)=true
 ·have HE2:Hid (Zoj c=true):=by show _ = _;rw[HE.out,h1];rfl
  go_enter Tryz.func214,Tryz.ntmps214
  go_wp2
  go_ret
  exact⟨Zad HE2.out.symm,rfl⟩
 ·replace h1:(c == 46)=false:=by simpa using h1
  by_cases h2:(c == 43)=true
  ·have HE2:Hid (Zoj c=true):=by show _ = _;rw[HE.out,h1,h2];rfl
   go_enter Tryz.func214,Tryz.ntmps214
   go_wp2
   go_ret
   exact⟨Zad HE2.out.symm,rfl⟩
  ·replace h2:(c == 43)=false:=by simpa using h2
   by_cases h3:(c == 45)=true
   ·have HE2:Hid (Zoj c=true):=by show _ = _;rw[HE.out,h1,h2,h3];rfl
    go_enter Tryz.func214,Tryz.ntmps214
    go_wp2
    go_ret
    exact⟨Zad HE2.out.symm,rfl⟩
   ·replace h3:(c == 45)=false:=by simpa using h3
    have HE2:Hid (Zoj c=(c == 126)):=by show _ = _;rw[HE.out,h1,h2,h3];rfl
    go_enter Tryz.func214,Tryz.ntmps214
    go_wp2
    go_ret
    exact⟨Zad HE2.out.symm,rfl⟩
theorem Ybq(c:Int):M.Zv8 c=(M.isLt c || M.isD c || Zoj c):=by
 unfold M.Zv8 M.isLt M.isD Zoj
 rw[Bool.eq_iff_iff]
 simp only[Bool.or_eq_true,decide_eq_true_eq]
 omega
theorem Z7o(c:Int)(w:World):
 Calls Tryz.prog 213 #[.int .u8 c] w fun e w'=>e=.returned (.bool (M.Zv8 c))/\w'=w:=by
 have cL:=fun w=>Zi8 c w
 have cD:=fun w=>Zdf c w
 have cK:=fun w=>Z8k c w
 have HE:Hid (M.Zv8 c=(M.isLt c || M.isD c || Zoj c)):=Ybq c
 by_cases h1:M.isLt c=true
 ·have HE2:Hid (M.Zv8 c=true):=by show _ = _;rw[HE.out,h1];rfl
  go_enter Tryz.func213,Tryz.ntmps213
  go_wp2_with (first|(go_at_call 149;refine(cL _).mono ?_;rintro e w' ⟨rfl,rfl⟩))
  go_ret
  exact⟨Zad HE2.out.symm,rfl⟩
 ·replace h1:M.isLt c=false:=by simpa using h1
  by_cases h2:M.isD c=true
  ·have HE2:Hid (M.Zv8 c=true):=by show _ = _;rw[HE.out,h1,h2];rfl
   go_enter Tryz.func213,Tryz.ntmps213
   go_wp2_with (first|(go_at_call 149;refine(cL _).mono ?_;rintro e w' ⟨rfl,rfl⟩)|(go_at_call 59;refine(cD _).mono ?_;rintro e w' ⟨rfl,rfl⟩))
   go_ret
   exact⟨Zad HE2.out.symm,rfl⟩
  ·replace h2:M.isD c=false:=by simpa using h2
   have HE2:Hid (M.Zv8 c=Zoj c):=by show _ = _;rw[HE.out,h1,h2];rfl
   go_enter Tryz.func213,Tryz.ntmps213
   go_wp2_with (first|(go_at_call 149;refine(cL _).mono ?_;rintro e w' ⟨rfl,rfl⟩)|(go_at_call 59;refine(cD _).mono ?_;rintro e w' ⟨rfl,rfl⟩)|(go_at_call 214;refine(cK _).mono ?_;rintro e w' ⟨rfl,rfl⟩))
   go_ret
   exact⟨Zad HE2.out.symm,rfl⟩
theorem Zi1(s:ByteArray)(w:World)(hs:s.size<=1000000):
 Calls Tryz.prog 162 #[.string s] w fun e w'=>Gives (Zkt s) (.string s) e/\w'=w:=by
 have cM:=fun w=>Zjc 213 M.Zv8 (enters_of Tryz.func213 (by kernel_rfl) rfl) Z7o s 16 w hs
 by_cases hm:Zhu M.Zv8 16 s=true
 ·have h0:=Z0a hm
  have cY:=Zfn
  have cN:=Zes
  have hh:=Zz2 M.isD s h0
  by_cases hd:M.isD s[0].toNat=true
  ·have HE:Hid (Zkt s=true):=by show _ = _;rw[Zok,hm,hh,hd];rfl
   clear hh cN
   go_enter Tryz.func162,Tryz.ntmps162
   go_wp2_with (first|(go_at_call 211;refine(cM _).mono ?_;rintro e w' ⟨rfl,rfl⟩)|(go_at_call 62;refine(cY _).mono ?_;rintro e w' ⟨rfl,rfl⟩)|(go_at_call 59;refine(Zdf _ _).mono ?_;rintro e w' ⟨rfl,rfl⟩))
   go_ret
   exact⟨Zob HE.out rfl,rfl⟩
  ·have hd':M.isD s[0].toNat=false:=by simpa using hd
   have HE:Hid (Zkt s=false):=by show _ = _;rw[Zok,hm,hh,hd'];rfl
   clear hh hd
   go_enter Tryz.func162,Tryz.ntmps162
   go_wp2_with (first|(go_at_call 211;refine(cM _).mono ?_;rintro e w' ⟨rfl,rfl⟩)|(go_at_call 62;refine(cY _).mono ?_;rintro e w' ⟨rfl,rfl⟩)|(go_at_call 62;refine(cN _).mono ?_;rintro e w' ⟨rfl,rfl⟩)|(go_at_call 59;refine(Zdf _ _).mono ?_;rintro e w' ⟨rfl,rfl⟩))
   exact⟨rfl,Zeq HE.out rfl,rfl⟩
 ·have hm':Zhu M.Zv8 16 s=false:=by simpa using hm
  have HE:Hid (Zkt s=false):=by show _ = _;rw[Zok,hm'];rfl
  have cN:=Zes
  clear hm
  go_enter Tryz.func162,Tryz.ntmps162
  go_wp2_with (first|(go_at_call 211;refine(cM _).mono ?_;rintro e w' ⟨rfl,rfl⟩)|(go_at_call 62;refine(cN _).mono ?_;rintro e w' ⟨rfl,rfl⟩))
  exact⟨rfl,Zeq HE.out rfl,rfl⟩
theorem Z8n(c:Int):M.Zf6 c=(M.Znb c || M.isD c || c == 46 || c == 95):=by
 unfold M.Zf6 M.Znb M.isD
 rw[Bool.eq_iff_iff]
 simp only[Bool.or_eq_true,decide_eq_true_eq,beq_iff_eq]
 omega
theorem Z4b(c:Int)(w:World):
 Calls Tryz.prog 220 #[.int .u8 c] w fun e w'=>e=.returned (.bool (M.Zf6 c))/\w'=w:=by
 have cS:=fun w=>Zc0 c w
 have cD:=fun w=>Zdf c w
 have HE:Hid (M.Zf6 c=(M.Znb c || M.isD c || c == 46 || c == 95)):=Z8n c
 by_cases h1:M.Znb c=true
 ·have HE2:Hid (M.Zf6 c=true):=by show _ = _;rw[HE.out,h1];rfl
  go_enter Tryz.func220,Tryz.ntmps220
  go_wp2_with (go_at_call 201;refine(cS _).mono ?_;rintro e w' ⟨rfl,rfl⟩)
  go_ret
  exact⟨Zad HE2.out.symm,rfl⟩
 ·replace h1:M.Znb c=false:=by simpa using h1
  by_cases h2:M.isD c=true
  ·have HE2:Hid (M.Zf6 c=true):=by show _ = _;rw[HE.out,h1,h2];rfl
   go_enter Tryz.func220,Tryz.ntmps220
   go_wp2_with (first|(go_at_call 201;refine(cS _).mono ?_;rintro e w' ⟨rfl,rfl⟩)|(go_at_call 59;refine(cD _).mono ?_;rintro e w' ⟨rfl,rfl⟩))
   go_ret
   exact⟨Zad HE2.out.symm,rfl⟩
  ·replace h2:M.isD c=false:=by simpa using h2
   by_cases h3:(c == 46)=true
   ·have HE2:Hid (M.Zf6 c=true):=by show _ = _;rw[HE.out,h1,h2,h3];rfl
    go_enter Tryz.func220,Tryz.ntmps220
    go_wp2_with (first|(go_at_call 201;refine(cS _).mono ?_;rintro e w' ⟨rfl,rfl⟩)|(go_at_call 59;refine(cD _).mono ?_;rintro e w' ⟨rfl,rfl⟩))
    go_ret
    exact⟨Zad HE2.out.symm,rfl⟩
   ·replace h3:(c == 46)=false:=by simpa using h3
    have HE2:Hid (M.Zf6 c=(c == 95)):=by show _ = _;rw[HE.out,h1,h2,h3];rfl
    go_enter Tryz.func220,Tryz.ntmps220
    go_wp2_with (first|(go_at_call 201;refine(cS _).mono ?_;rintro e w' ⟨rfl,rfl⟩)|(go_at_call 59;refine(cD _).mono ?_;rintro e w' ⟨rfl,rfl⟩))
    go_ret
    exact⟨Zad HE2.out.symm,rfl⟩
def Zio(s:ByteArray):Bool:=M.made M.Zf6 1 8 s.data.toList && !(s.data.toList == [46]) && !(s.data.toList == [46,46])
theorem Z3e(s:ByteArray):Zio s=(Zhu M.Zf6 8 s && !(s.toList == [46]) && !(s.toList == [46,46])):=by rw[Lib.toList_data];rfl
theorem Zue(s:ByteArray)(w:World)(hs:s.size<=1000000):
 Calls Tryz.prog 168 #[.string s] w fun e w'=>Gives (Zio s) (.string s) e/\w'=w:=by
 have cM:=fun w=>Zjc 220 M.Zf6 (enters_of Tryz.func220 (by kernel_rfl) rfl) Z4b s 8 w hs
 have HI:Hid (Zio s=(Zhu M.Zf6 8 s && !(s.toList == [46]) && !(s.toList == [46,46]))):=Z3e s
 by_cases hm:Zhu M.Zf6 8 s=true
 ·have cY:=Zfn
  have cN:=Zes
  by_cases h1:(s.toList == [46])=true
  ·have HE:Hid (Zio s=false):=by show _ = _;rw[HI.out,hm,h1];rfl
   go_enter Tryz.func168,Tryz.ntmps168
   go_wp2_with (first|(go_at_call 211;refine(cM _).mono ?_;rintro e w' ⟨rfl,rfl⟩)|(go_at_call 62;refine(cY _).mono ?_;rintro e w' ⟨rfl,rfl⟩)|(go_at_call 62;refine(cN _).mono ?_;rintro e w' ⟨rfl,rfl⟩))
   exact⟨rfl,Zeq HE.out rfl,rfl⟩
  ·replace h1:(s.toList == [46])=false:=by simpa using h1
   by_cases h2:(s.toList == [46,46])=true
   ·have HE:Hid (Zio s=false):=by show _ = _;rw[HI.out,hm,h1,h2];rfl
    go_enter Tryz.func168,Tryz.ntmps168
    go_wp2_with (first|(go_at_call 211;refine(cM _).mono ?_;rintro e w' ⟨rfl,rfl⟩)|(go_at_call 62;refine(cY _).mono ?_;rintro e w' ⟨rfl,rfl⟩)|(go_at_call 62;refine(cN _).mono ?_;rintro e w' ⟨rfl,rfl⟩))
    exact⟨rfl,Zeq HE.out rfl,rfl⟩
   ·replace h2:(s.toList == [46,46])=false:=by simpa using h2
    have HE:Hid (Zio s=true):=by show _ = _;rw[HI.out,hm,h1,h2];rfl
    clear cN
    go_enter Tryz.func168,Tryz.ntmps168
    go_wp2_with (first|(go_at_call 211;refine(cM _).mono ?_;rintro e w' ⟨rfl,rfl⟩)|(go_at_call 62;refine(cY _).mono ?_;rintro e w' ⟨rfl,rfl⟩))
    go_ret
    exact⟨Zob HE.out rfl,rfl⟩
 ·replace hm:Zhu M.Zf6 8 s=false:=by simpa using hm
  have HE:Hid (Zio s=false):=by show _ = _;rw[HI.out,hm];rfl
  have cN:=Zes
  go_enter Tryz.func168,Tryz.ntmps168
  go_wp2_with (first|(go_at_call 211;refine(cM _).mono ?_;rintro e w' ⟨rfl,rfl⟩)|(go_at_call 62;refine(cN _).mono ?_;rintro e w' ⟨rfl,rfl⟩))
  exact⟨rfl,Zeq HE.out rfl,rfl⟩
def Zm5(s:ByteArray):Bool:=s.toList == [60,60] || s.toList == [60,61] || s.toList == [61] || s.toList == [62,61] || s.toList == [62,62]
theorem Z15(s:ByteArray)(w:World):
 Calls Tryz.prog 216 #[.string s] w fun e w'=>e=.returned (.bool (Zm5 s))/\w'=w:=by
 have HE:Hid (Zm5 s=(s.toList == [60,60] || s.toList == [60,61] || s.toList == [61] || s.toList == [62,61] || s.toList == [62,62])):=rfl
 by_cases h1:(s.toList == [60,60])=true
 ·have HE2:Hid (Zm5 s=true):=by show _ = _;rw[HE.out,h1];rfl
  go_enter Tryz.func216,Tryz.ntmps216
  go_wp2
  go_ret
  exact⟨Zad HE2.out.symm,rfl⟩
 replace h1:(s.toList == [60,60])=false:=by simpa using h1
 by_cases h2:(s.toList == [60,61])=true
 ·have HE2:Hid (Zm5 s=true):=by show _ = _;rw[HE.out,h1,h2];rfl
  go_enter Tryz.func216,Tryz.ntmps216
  go_wp2
  go_ret
  exact⟨Zad HE2.out.symm,rfl⟩
 replace h2:(s.toList == [60,61])=false:=by simpa using h2
 by_cases h3:(s.toList == [61])=true
 ·have HE2:Hid (Zm5 s=true):=by show _ = _;rw[HE.out,h1,h2,h3];rfl
  go_enter Tryz.func216,Tryz.ntmps216
  go_wp2
  go_ret
  exact⟨Zad HE2.out.symm,rfl⟩
 replace h3:(s.toList == [61])=false:=by simpa using h3
 by_cases h4:(s.toList == [62,61])=true
 ·have HE2:Hid (Zm5 s=true):=by show _ = _;rw[HE.out,h1,h2,h3,h4];rfl
  go_enter Tryz.func216,Tryz.ntmps216
  go_wp2
  go_ret
  exact⟨Zad HE2.out.symm,rfl⟩
 replace h4:(s.toList == [62,61])=false:=by simpa using h4
 by_cases h5:(s.toList == [62,62])=true
 ·have HE2:Hid (Zm5 s=true):=by show _ = _;rw[HE.out,h1,h2,h3,h4,h5];rfl
  go_enter Tryz.func216,Tryz.ntmps216
  go_wp2
  go_ret
  exact⟨Zad HE2.out.symm,rfl⟩
 replace h5:(s.toList == [62,62])=false:=by simpa using h5
 have HE2:Hid (Zm5 s=false):=by show _ = _;rw[HE.out,h1,h2,h3,h4,h5];rfl
 go_enter Tryz.func216,Tryz.ntmps216
 go_wp2
 go_ret
 exact⟨Zad HE2.out.symm,rfl⟩
def Zbl(b:UInt8):Value:=.int .u8 b.toNat
def Sec(w:World)(base:Nat)(v:Value)(x:List UInt8):Prop:=∃ g c,v=.slice (some ⟨g,0,none⟩) 64 c/\64<=c/\c<=maxLen/\base<=g/\(∃ cur,w.heap[g]? = some (.cells cur 5 (0,0)))/\(∀ j u,(x.map Zbl)[j]? = some u->w.cell? ⟨g,j,none⟩=some u)/\x.length=64
def Zg0(w:World)(base:Nat)(v:Value)(l:List (List UInt8)):Prop:=∃ vs,w.ownsRow base 102 1 v l.length vs/\vs.length=l.length/\∀ i (hi:i<l.length),∃ u,vs[i]? = some u/\Sec w base u l[i]
theorem Sec.kept{w w':World}{base:Nat}{v:Value}{x:List UInt8}{row:Option Nat}(h:Sec w base v x)(hg:w.grownBy w' row)(hr:∀ j,row=some j->∀ cur fz,w.heap[j]?≠some (.cells cur 5 fz)):Sec w' base v x:=by
 obtain⟨g,c,e,h4,h5,h1,⟨cur,h2⟩,h6,h3⟩:=h
 have hb:=hg.block g (Array.getElem?_eq_some_iff.1 h2).1 (fun e=>hr g e.symm _ _ h2)
 exact⟨g,c,e,h4,h5,h1,⟨cur,hb.trans h2⟩,fun j u hu=>(World.cell?_of_block (a:=⟨g,j,none⟩) hb).trans (h6 j u hu),h3⟩
theorem Sec.whole{w:World}{base g:Nat}{x:List UInt8}(hb:base<=g)(h:w.heap[g]? = some (.cells (x.map Zbl).toArray 5 (0,0)))(hx:x.length=64):Sec w base (.slice (some ⟨g,0,none⟩) 64 64) x:=
 ⟨g,64,rfl,Nat.le_refl _,by unfold maxLen;omega,hb,⟨_,h⟩,fun j u hu=>by rw[cell_of_row w g j _ _ (0,0) h];simpa using hu,hx⟩
theorem Zg0.kept{w w':World}{base:Nat}{v:Value}{l:List (List UInt8)}{row:Option Nat}(h:Zg0 w base v l)(hg:w.grownBy w' row)(hr:∀ j,row=some j->∀ cur fz,w.heap[j]?≠some (.cells cur 5 fz))(hne:v.ownBlock=none\/v.ownBlock≠row):Zg0 w' base v l:=by
 obtain⟨vs,h1,h2,h3⟩:=h
 refine⟨vs,h1.kept hg hne,h2,fun i hi=>?_⟩
 obtain⟨u,k1,k2⟩:=h3 i hi
 exact⟨u,k1,k2.kept hg hr⟩
theorem Zg0.empty(w:World)(base:Nat):Zg0 w base (.slice none 0 0) []:=⟨[],World.ownsRow_nil _ _ _ _,rfl,fun i hi=>by simp at hi⟩
def zeros:List UInt8:=List.replicate 64 0
theorem Yby:(Tryz.prog.info? 102).map (fun i=>(i.zero,i.size,i.bytes))=some (some (.slice none 0 0),1,24):=by kernel_rfl
theorem Zg0.append{w:World}{base:Nat}{v:Value}{l:List (List UInt8)}(h:Zg0 w base v l)(u:Value)(x:List UInt8)(b:Nat)(ty:TypeId)(hu:Sec w base u x)(hb:w.cell? ⟨b,0,none⟩=some u)(hn:l.length<=1000000)(hbase:base<=w.heap.size):
 ∃ v' w',(Builtin.append_ #[98,98] ty #[v,.slice (some ⟨b,0,none⟩) 1 1]).run Tryz.prog w=.ok v' w'/\Zg0 w' base v' (l++[x])/\w.grownBy w' v.ownBlock/\(v'.ownBlock=v.ownBlock\/v'.ownBlock=some w.heap.size):=by
 obtain⟨i0,hi0,hz0,hz1,hz2⟩:=info_parts Yby
 obtain⟨vs,h1,h2,h3⟩:=h
 have hu1:∀ y∈[u],y.oneCell'=true:=fun y hy=>by
  simp only[List.mem_singleton] at hy
  subst hy
  obtain⟨g,c,rfl,_⟩:=hu
  rfl
 obtain⟨v',w',hrun,r1,r2,_,r4⟩:=run_append_own_at (P:=Tryz.prog) w base 98 ty 102 i0 _ 1 24 Tryz.underlying98 hi0 hz0 hz1 hz2 rfl (by decide) v l.length vs h1 ⟨b,0,none⟩ 1 1 [u] rfl (fun j y hy=>by
  match j,hy with
  | 0,hy=>cases hy;rw[Addr.add_lit];exact hb) hu1 (by unfold maxLen;omega) (by omega) hbase
 have hro:∀ j,v.ownBlock=some j->∀ cur fz,w.heap[j]?≠some (.cells cur 5 fz):=fun j hj cur fz hh=>by
  obtain⟨_,⟨rfl,_⟩|⟨g,cap,cur2,rfl,_,hg,_⟩⟩:=h1
  ·cases hj
  ·cases hj
   rw[hg] at hh
   cases hh
 refine⟨v',w',hrun,⟨vs++[u],by rw[List.length_append];exact r1,by simp[h2],fun i hi=>?_⟩,r2,r4⟩
 by_cases hlt:i<l.length
 ·obtain⟨y,k1,k2⟩:=h3 i hlt
  refine⟨y,by rw[List.getElem?_append_left (by omega)];exact k1,?_⟩
  rw[List.getElem_append_left hlt]
  exact k2.kept r2 hro
 ·have e:i=l.length:=by simp at hi;omega
  subst e
  refine⟨u,by rw[List.getElem?_append_right (by omega)];simp[h2],?_⟩
  rw[List.getElem_append_right (by omega)]
  simpa using hu.kept r2 hro
structure Zda (w:World) (d:Nat) (hv sv lv:Value) (left:Int) (dead:Bool) (held seen:List (List UInt8)):Prop where
 blk:w.heap[d]? = some (.cells #[hv,sv,lv,.int .i64 left,.bool dead] 101 (0,0))
 held:Zg0 w (d+1) hv held
 seen:Zg0 w (d+1) sv seen
 apart:∀ g,hv.ownBlock=some g->sv.ownBlock≠some g
abbrev Z64:Array Value:=(zeros.map Zbl).toArray
theorem z64:madeCells #[.int .u8 0] 64=Z64:=by kernel_rfl
theorem Z49:(Tryz.prog.info? 5).map (fun i=>(i.zero,i.size,i.bytes))=some (some (.int .u8 0),1,1):=by kernel_rfl
theorem Z4z(w:World):(Instr.makeSlice 102 (.int .i64 64) (.int .i64 64)).run Tryz.prog w=.ok (.slice (some ⟨w.heap.size,0,none⟩) 64 64) (w.alloc (.cells Z64 5)):=by
 rw[<-z64]
 exact run_make_row' 102 5 (.int .u8 0) 1 Tryz.underlying102 Z49 rfl .i64 .i64 64 (by omega) (by omega) w
theorem Zo1:zeros.length=64:=by simp[zeros]
theorem Zub(k:Nat)(x:List UInt8):List.replicate (k+1) x=List.replicate k x++[x]:=List.replicate_succ'
abbrev Zzr(w:World):World:=((w.alloc (.cells Z64 5)).alloc (.cells #[.slice (some ⟨w.heap.size,0,none⟩) 64 64] 102)).drew
theorem Zr2(w:World):Below w.heap.size w (Zzr w):=bt (bt ((Below.refl _ w).alloc ler _) ((Below.refl _ _).alloc ler _)) (Zae _ 1)
theorem Zvs(w:World):(Zzr w).heap.size=w.heap.size+2:=by simp[Zzr]
theorem Zg2{w w':World}(h:Below w.heap.size w w')(row:Option Nat):w.grownBy w' row:=⟨h.os,h.tape,h.output,h.size,fun k hk _=>h.block k hk⟩
theorem Z0t(w:World)(base:Nat)(hb:base<=w.heap.size):Sec (Zzr w) base (.slice (some ⟨w.heap.size,0,none⟩) 64 64) zeros:=by
 refine Sec.whole hb ?_ Zo1
 have h1:(w.alloc (.cells Z64 5)).heap[w.heap.size]? = some (.cells Z64 5 (0,0)):=heap_alloc_new w _
 exact(heap_alloc_old _ _ (by simp)).trans h1
theorem Zv0(w:World):(Zzr w).cell? ⟨w.heap.size+1,0,none⟩=some (.slice (some ⟨w.heap.size,0,none⟩) 64 64):=by
 simp[Zzr]
theorem Zg0.form{w:World}{base:Nat}{v:Value}{l:List (List UInt8)}(h:Zg0 w base v l):∃ a c,v=.slice a l.length c:=by
 obtain⟨vs,h1,_⟩:=h
 exact Zac h1
theorem Zg0.lt{w:World}{base:Nat}{v:Value}{l:List (List UInt8)}(h:Zg0 w base v l):∀ g,v.ownBlock=some g->base<=g/\g<w.heap.size:=by
 obtain⟨vs,h1,_⟩:=h
 exact fun g hg=>h1.lt g hg
theorem Zg0.no_u8{w:World}{base:Nat}{v:Value}{l:List (List UInt8)}(h:Zg0 w base v l):∀ j,v.ownBlock=some j->∀ cur fz,w.heap[j]?≠some (.cells cur 5 fz):=by
 obtain⟨vs,h1,_⟩:=h
 intro j hj cur fz hh
 obtain⟨_,⟨rfl,_⟩|⟨g,cap,cur2,rfl,_,hg,_⟩⟩:=h1
 ·cases hj
 ·cases hj
  rw[hg] at hh
  cases hh
theorem Zda.more0{w:World}{d:Nat}{hv sv lv:Value}{left:Int}{dead:Bool}{held seen:List (List UInt8)}(h:Zda w d hv sv lv left dead held seen)(ty:TypeId)(hn:held.length<=1000000):
 ∃ a c w',(Builtin.append_ #[98,98] ty #[hv,.slice (some ⟨w.heap.size+1,0,none⟩) 1 1]).run Tryz.prog (Zzr w)=.ok (.slice a (held.length+1) c) w'/\w'.heap[d]? = some (.cells #[hv,sv,lv,.int .i64 left,.bool dead] 101 (0,0))/\
  Zda (w'.setCell ⟨d,0,none⟩ (.slice a (held.length+1) c)) d (.slice a (held.length+1) c) sv lv left dead (held++[zeros]) seen/\Below d w (w'.setCell ⟨d,0,none⟩ (.slice a (held.length+1) c)):=by
 have hd:d<w.heap.size:=(Array.getElem?_eq_some_iff.1 h.blk).1
 have hb:=Zr2 w
 have hg:=Zg2 hb none
 have hs:=Zvs w
 have k1:Zg0 (Zzr w) (d+1) hv held:=h.held.kept hg (fun j hj=>by cases hj) (by cases hv.ownBlock <;> simp)
 have k2:Zg0 (Zzr w) (d+1) sv seen:=h.seen.kept hg (fun j hj=>by cases hj) (by cases sv.ownBlock <;> simp)
 obtain⟨v',w',r1,r2,r3,r4⟩:=k1.append _ zeros (w.heap.size+1) ty (Z0t w (d+1) (by omega)) (Zv0 w) hn (by omega)
 obtain⟨a,c,e⟩:=r2.form
 subst e
 rw[List.length_append,List.length_singleton] at r1 r2 r4
 have e1:w'.heap[d]? = some (.cells #[hv,sv,lv,.int .i64 left,.bool dead] 101 (0,0)):=
  (r3.block d (by omega) (fun e=>by have:=k1.lt d e.symm;omega)).trans ((hb.block d hd).trans h.blk)
 have k3:Zg0 w' (d+1) sv seen:=k2.kept r3 k1.no_u8 (by
  cases hq:sv.ownBlock with
  | none=>exact .inl rfl
  | some g=>exact .inr (fun e=>h.apart g e.symm hq))
 have hset:w'.grownBy (w'.setCell ⟨d,0,none⟩ (.slice a (held.length+1) c)) (some d):=⟨rfl,rfl,rfl,by simp,fun k _ hk=>Below.heap_setCell _ _ _ _ (fun e=>hk (by rw[e]))⟩
 have hnd:∀ j,some d=some j->∀ cur fz,w'.heap[j]?≠some (.cells cur 5 fz):=fun j hj cur fz hh=>by
  cases hj
  rw[e1] at hh
  cases hh
 refine⟨a,c,w',r1,e1,⟨?_,r2.kept hset hnd ?_,k3.kept hset hnd ?_,?_⟩,?_⟩
 ·exact heap_setCell_same w' d 0 _ _ _ e1
 ·cases hq:(Value.slice a (held.length+1) c).ownBlock with
  | none=>exact .inl rfl
  | some g=>exact .inr (fun e=>by have:=r2.lt g hq;cases e;omega)
 ·cases hq:sv.ownBlock with
  | none=>exact .inl rfl
  | some g=>exact .inr (fun e=>by have:=k3.lt g hq;cases e;omega)
 ·intro g hg' hsv
  rcases r4 with e|e
  ·rw[e] at hg'
   exact h.apart g hg' hsv
  ·rw[e] at hg'
   have:=h.seen.lt g hsv
   cases hg'
   omega
 ·refine⟨hset.os.trans (r3.os.trans hb.os),hset.tape.trans (r3.tape.trans hb.tape),hset.output.trans (r3.output.trans hb.output),Nat.le_trans hb.size (Nat.le_trans r3.size hset.size),fun k hk=>?_⟩
  exact(hset.block k (by have:=r3.size;omega) (fun e=>by cases e;omega)).trans ((r3.block k (by omega) (fun e=>by have:=k1.lt k e.symm;omega)).trans (hb.block k (by omega)))
theorem Zda.more1{w:World}{d:Nat}{hv sv lv:Value}{left:Int}{dead:Bool}{held seen:List (List UInt8)}(h:Zda w d hv sv lv left dead held seen)(ty:TypeId)(hn:seen.length<=1000000):
 ∃ a c w',(Builtin.append_ #[98,98] ty #[sv,.slice (some ⟨w.heap.size+1,0,none⟩) 1 1]).run Tryz.prog (Zzr w)=.ok (.slice a (seen.length+1) c) w'/\w'.heap[d]? = some (.cells #[hv,sv,lv,.int .i64 left,.bool dead] 101 (0,0))/\
  Zda (w'.setCell ⟨d,1,none⟩ (.slice a (seen.length+1) c)) d hv (.slice a (seen.length+1) c) lv left dead held (seen++[zeros])/\Below d w (w'.setCell ⟨d,1,none⟩ (.slice a (seen.length+1) c)):=by
 have hd:d<w.heap.size:=(Array.getElem?_eq_some_iff.1 h.blk).1
 have hb:=Zr2 w
 have hg:=Zg2 hb none
 have hs:=Zvs w
 have k1:Zg0 (Zzr w) (d+1) hv held:=h.held.kept hg (fun j hj=>by cases hj) (by cases hv.ownBlock <;> simp)
 have k2:Zg0 (Zzr w) (d+1) sv seen:=h.seen.kept hg (fun j hj=>by cases hj) (by cases sv.ownBlock <;> simp)
 obtain⟨v',w',r1,r2,r3,r4⟩:=k2.append _ zeros (w.heap.size+1) ty (Z0t w (d+1) (by omega)) (Zv0 w) hn (by omega)
 obtain⟨a,c,e⟩:=r2.form
 subst e
 rw[List.length_append,List.length_singleton] at r1 r2 r4
 have e1:w'.heap[d]? = some (.cells #[hv,sv,lv,.int .i64 left,.bool dead] 101 (0,0)):=
  (r3.block d (by omega) (fun e=>by have:=k2.lt d e.symm;omega)).trans ((hb.block d hd).trans h.blk)
 have k3:Zg0 w' (d+1) hv held:=k1.kept r3 k2.no_u8 (by
  cases hq:hv.ownBlock with
  | none=>exact .inl rfl
  | some g=>exact .inr (fun e=>h.apart g hq e.symm))
 have hset:w'.grownBy (w'.setCell ⟨d,1,none⟩ (.slice a (seen.length+1) c)) (some d):=⟨rfl,rfl,rfl,by simp,fun k _ hk=>Below.heap_setCell _ _ _ _ (fun e=>hk (by rw[e]))⟩
 have hnd:∀ j,some d=some j->∀ cur fz,w'.heap[j]?≠some (.cells cur 5 fz):=fun j hj cur fz hh=>by
  cases hj
  rw[e1] at hh
  cases hh
 refine⟨a,c,w',r1,e1,⟨?_,k3.kept hset hnd ?_,r2.kept hset hnd ?_,?_⟩,?_⟩
 ·exact heap_setCell_same w' d 1 _ _ _ e1
 ·cases hq:hv.ownBlock with
  | none=>exact .inl rfl
  | some g=>exact .inr (fun e=>by have:=k3.lt g hq;cases e;omega)
 ·cases hq:(Value.slice a (seen.length+1) c).ownBlock with
  | none=>exact .inl rfl
  | some g=>exact .inr (fun e=>by have:=r2.lt g hq;cases e;omega)
 ·intro g hg' hsv
  rcases r4 with e|e
  ·rw[e] at hsv
   exact h.apart g hg' hsv
  ·rw[e] at hsv
   have:=h.held.lt g hg'
   cases hsv
   omega
 ·refine⟨hset.os.trans (r3.os.trans hb.os),hset.tape.trans (r3.tape.trans hb.tape),hset.output.trans (r3.output.trans hb.output),Nat.le_trans hb.size (Nat.le_trans r3.size hset.size),fun k hk=>?_⟩
  exact(hset.block k (by have:=r3.size;omega) (fun e=>by cases e;omega)).trans ((r3.block k (by omega) (fun e=>by have:=k2.lt k e.symm;omega)).trans (hb.block k (by omega)))
theorem Zwp(n:Nat)(w:World)(hn:n<=256):Calls Tryz.prog 19 #[.int .i64 n] w fun e w'=>∃ hv sv,e=.returned (.pointer (some ⟨w.heap.size,0,none⟩))/\Zda w' w.heap.size hv sv (.slice none 0 0) (-1) false (List.replicate n zeros) (List.replicate n zeros)/\Below w.heap.size w w':=by
 have hmk:=Z4z
 go_enter Tryz.func19,Tryz.ntmps19
 go_wp2
 go_loopw [7] (fun i wr=>∃ (k:Nat) (hv sv:Value),i=.int .i64 k/\k<=n/\Hid (Zda wr w.heap.size hv sv (.slice none 0 0) (-1) false (List.replicate k zeros) (List.replicate k zeros))/\Hid (Below w.heap.size w wr)) (fun i _=>n-(intOf i).toNat)
 case atStart=>exact⟨0,_,_,rfl,Nat.zero_le _,⟨heap_alloc_new w _,Zg0.empty _ _,Zg0.empty _ _,fun g h=>by cases h⟩,(Below.refl _ w).alloc ler _⟩
 case round=>
  obtain⟨k,hv,sv,rfl,hk,HD,HB⟩:=hrel
  by_cases hlt:k<n
  ·obtain⟨a0,x0,e0⟩:=HD.out.held.form
   obtain⟨a1,c1,w1,ha1,hb1,hd1,hB1⟩:=HD.out.more0 98 (by rw[List.length_replicate];omega)
   have c0:wr.cell? ⟨w.heap.size,0,none⟩=some hv:=by rw[cell_of_row wr _ 0 _ _ (0,0) HD.out.blk];rfl
   have hds:w.heap.size<wr.heap.size:=(Array.getElem?_eq_some_iff.1 HD.out.blk).1
   have c1':(wr.alloc (.cells Z64 5)).cell? ⟨w.heap.size,0,none⟩=some hv:=(World.cell?_alloc_past _ _ _ hds).trans c0
   have d1:w1.cell? ⟨w.heap.size,0,none⟩=some hv:=by rw[cell_of_row w1 _ 0 _ _ (0,0) hb1];rfl
   have f1:w1.frozen? ⟨w.heap.size,0,none⟩=false:=frozen_of_row w1 _ _ _ _ hb1
   rw[List.length_replicate] at e0 ha1 hd1 hB1
   rw[<-Zub] at hd1
   subst e0
   have HA1:=hid ha1
   clear ha1 hb1
   generalize hW2:w1.setCell ⟨w.heap.size,0,none⟩ (.slice a1 (k+1) c1)=W2 at hd1 hB1
   have HD1:=hid hd1
   have HB1:Hid (Below w.heap.size w W2):=HB.out.trans hB1
   clear hd1 hB1
   go_wp2
   go_region_law (refine Zen rfl (.tmp 13) (.tmp 15) 98 rfl _ _ _ _ (by simp[Act.eval]) (by simp[Act.eval]) HA1.out ?_)
   all_goals
    obtain⟨a2,x2,e2⟩:=HD1.out.seen.form
    obtain⟨a3,c3,w3,ha3,hb3,hd3,hB3⟩:=HD1.out.more1 98 (by rw[List.length_replicate];omega)
    have c2:W2.cell? ⟨w.heap.size,1,none⟩=some sv:=by rw[cell_of_row W2 _ 1 _ _ (0,0) HD1.out.blk];rfl
    have hds2:w.heap.size<W2.heap.size:=(Array.getElem?_eq_some_iff.1 HD1.out.blk).1
    have c2':(W2.alloc (.cells Z64 5)).cell? ⟨w.heap.size,1,none⟩=some sv:=(World.cell?_alloc_past _ _ _ hds2).trans c2
    have d3:w3.cell? ⟨w.heap.size,1,none⟩=some sv:=by rw[cell_of_row w3 _ 1 _ _ (0,0) hb3];rfl
    have f3:w3.frozen? ⟨w.heap.size,1,none⟩=false:=frozen_of_row w3 _ _ _ _ hb3
    rw[List.length_replicate] at e2 ha3 hd3 hB3
    rw[<-Zub] at hd3
    subst e2
    have HA3:=hid ha3
    clear ha3 hb3 c0 c1' d1 f1 hds
    generalize hW4:w3.setCell ⟨w.heap.size,1,none⟩ (.slice a3 (k+1) c3)=W4 at hd3 hB3
    have HD3:=hid hd3
    have HB3:Hid (Below w.heap.size w W4):=HB1.out.trans hB3
    clear hd3 hB3 hW2
    go_wp2
    go_region_law (refine Zen rfl (.tmp 23) (.tmp 25) 98 rfl _ _ _ _ (by simp[Act.eval]) (by simp[Act.eval]) HA3.out ?_)
    all_goals
     go_wp2
     go_roundw
     case rel=>exact⟨k+1,_,_,by go_num,by omega,HD3,HB3⟩
     case measure=>simp[intOf];omega
  ·go_wp2
   go_ret
   have hkn:k=n:=by omega
   subst hkn
   exact⟨_,_,rfl,HD.out,HB.out⟩
end Go.Proofs.YtgnfknjopafngabGreatDoor
