import Derived.Test.YtgnfknjopafngabGreatDoorKai
set_option maxRecDepth 100000
set_option maxHeartbeats 2000000
namespace Go.Proofs.YtgnfknjopafngabGreatDoor
open Go.RowKit
theorem Zsd(x:Int)(w:World):
 Calls Tryz.prog 274 #[.int .i64 x] w fun e w'=>e=.returned (.int .i64 (M.Zdu x 0))/\w'=w:=by
 by_cases h1:x<0
 ·go_enter Tryz.func274,Tryz.ntmps274
  go_wp2
  go_ret
  exact⟨Za7 (by unfold M.Zdu;rw[if_pos h1]),rfl⟩
 ·by_cases h2:0<x
  ·go_enter Tryz.func274,Tryz.ntmps274
   go_wp2
   go_ret
   exact⟨Za7 (by unfold M.Zdu;rw[if_neg (by omega),if_pos h2]),rfl⟩
  ·go_enter Tryz.func274,Tryz.ntmps274
   go_wp2
   go_ret
   exact⟨Za7 (by unfold M.Zdu;rw[if_neg (by omega),if_neg (by omega)]),rfl⟩
theorem Zvb(s:ByteArray)(w:World)(hs:s.size<=maxLen):
 Calls Tryz.prog 272 #[.string s,.bool true] w fun e w'=>e=.returned (.int .i64 (diB s))/\w'=w:=by
 unfold maxLen at hs
 go_enter Tryz.func272,Tryz.ntmps272
 go_wp2
 go_loop [5] (fun i=>∃ k:Nat,k<=s.size/\i=.int .i64 k/\∀ j (h:j<s.data.toList.length),j<k->M.isD (s.data.toList[j]).toNat=true) (fun i=>s.size-(intOf i).toNat)
 case atStart=>exact⟨0,Nat.zero_le _,rfl,fun j _ h=>by omega⟩
 case round=>
  obtain⟨k,hk1,rfl,ha⟩:=hrel
  have HA:=hid ha
  clear ha
  by_cases hlt:k<s.size
  ·by_cases h1:48<=(s[k].toNat:Int)
   ·by_cases h2:(s[k].toNat:Int)<=57
    ·go_wp2
     go_round
     case rel=>
      refine⟨k+1,by omega,by go_num,fun j hj hjk=>?_⟩
      by_cases hjk':j<k
      ·exact HA.out j hj hjk'
      ·obtain rfl:j=k:=by omega
       exact M.Yas h1 h2
     case measure=>simp[intOf];omega
    ·go_wp2
     go_ret
     exact⟨Za7 (by unfold diB;rw[M.Zfy HA.out (by simpa using hk1) (fun _=>M.Z3o (c:=s[k].toNat) (by omega))]),rfl⟩
   ·go_wp2
    go_ret
    exact⟨Za7 (by unfold diB;rw[M.Zfy HA.out (by simpa using hk1) (fun _=>M.Z4u (c:=s[k].toNat) (by omega))]),rfl⟩
  ·go_wp2
   go_ret
   exact⟨Za7 (by unfold diB;rw[M.Zfy HA.out (by simpa using hk1) (fun h=>by simp at h;omega)]),rfl⟩
theorem Z5m(s:ByteArray)(w:World)(hs:s.size<=maxLen):
 Calls Tryz.prog 272 #[.string s,.bool false] w fun e w'=>e=.returned (.int .i64 (noB s))/\w'=w:=by
 unfold maxLen at hs
 go_enter Tryz.func272,Tryz.ntmps272
 go_wp2
 go_loop [5] (fun i=>∃ k:Nat,k<=s.size/\i=.int .i64 k/\∀ j (h:j<s.data.toList.length),j<k->M.Zih (s.data.toList[j]).toNat=true) (fun i=>s.size-(intOf i).toNat)
 case atStart=>exact⟨0,Nat.zero_le _,rfl,fun j _ h=>by omega⟩
 case round=>
  obtain⟨k,hk1,rfl,ha⟩:=hrel
  have HA:=hid ha
  clear ha
  by_cases hlt:k<s.size
  ·by_cases h1:48<=(s[k].toNat:Int)
   ·by_cases h2:(s[k].toNat:Int)<=57
    ·go_wp2
     go_ret
     exact⟨Za7 (by unfold noB;rw[M.Zfy HA.out (by simpa using hk1) (fun _=>by show M.Zih s[k].toNat=false;unfold M.Zih;rw[M.Yas h1 h2];rfl)]),rfl⟩
    ·go_wp2
     go_round
     case rel=>
      refine⟨k+1,by omega,by go_num,fun j hj hjk=>?_⟩
      by_cases hjk':j<k
      ·exact HA.out j hj hjk'
      ·obtain rfl:j=k:=by omega
       show M.Zih s[j].toNat=true
       unfold M.Zih;rw[M.Z3o (by omega)];rfl
     case measure=>simp[intOf];omega
   ·go_wp2
    go_round
    case rel=>
     refine⟨k+1,by omega,by go_num,fun j hj hjk=>?_⟩
     by_cases hjk':j<k
     ·exact HA.out j hj hjk'
     ·obtain rfl:j=k:=by omega
      show M.Zih s[j].toNat=true
      unfold M.Zih;rw[M.Z4u (by omega)];rfl
    case measure=>simp[intOf];omega
  ·go_wp2
   go_ret
   exact⟨Za7 (by unfold noB;rw[M.Zfy HA.out (by simpa using hk1) (fun h=>by simp at h;omega)]),rfl⟩
theorem Z82(c:UInt8)(w:World):
 (convert 102 9 (.slice (some ⟨w.heap.size,0,none⟩) 1 1)).run Tryz.prog (w.alloc (.cells #[.int .u8 c.toNat] 5))=.ok (.string ⟨#[c]⟩) (w.alloc (.cells #[.int .u8 c.toNat] 5)):=by
 have h:=run_convert_bytes_back (P:=Tryz.prog) (w.alloc (.cells #[.int .u8 c.toNat] 5)) 102 9 5 ⟨w.heap.size,0,none⟩ 1 [c] Tryz.underlying102 Tryz.underlying5 Tryz.underlying9 (by
  intro j hj
  obtain rfl:j=0:=by simpa using hj
  simp[Addr.add])
 exact h
theorem Zye:∀ c:UInt8,(([97,98,99,100,101,102,103,104,105,106,107,108,109,110,111,112,113,114,115,116,117,118,119,120,121,122,65,66,67,68,69,70,71,72,73,74,75,76,77,78,79,80,81,82,83,84,85,86,87,88,89,90]:List UInt8).contains c)=M.isLt c.toNat:=by
 intro c
 unfold M.isLt
 have h:∀ n:Nat,n<256->(([97,98,99,100,101,102,103,104,105,106,107,108,109,110,111,112,113,114,115,116,117,118,119,120,121,122,65,66,67,68,69,70,71,72,73,74,75,76,77,78,79,80,81,82,83,84,85,86,87,88,89,90]:List UInt8).contains (UInt8.ofNat n))=decide ((97<=(n:Int)/\(n:Int)<=122)\/(65<=(n:Int)/\(n:Int)<=90)):=by decide +kernel
 have:=h c.toNat c.toNat_lt
 rwa [UInt8.ofNat_toNat] at this
theorem Zjj(c:UInt8)(w:World):
 Calls Tryz.prog 273 #[.int .u8 c.toNat] w fun e w'=>e=.returned (.int .i64 (M.rkR c.toNat))/\Below w.heap.size w w':=by
 have hb:=c.toNat_lt
 have hl:=Zye c
 by_cases h2:(c.toNat:Int)=126
 ·have h2':((c.toNat:Int) == 126)=true:=by simpa using h2
  have H2:=hid h2
  clear h2
  go_enter Tryz.func273,Tryz.ntmps273
  go_wp2
  go_ret
  exact⟨Za7 (by unfold M.rkR;rw[if_pos H2.out]),Below.refl _ _⟩
 ·have h2':((c.toNat:Int) == 126)=false:=by simpa using h2
  have H2:=hid h2
  clear h2
  have hcv:=Z82 c w
  have hi:=M.Zw6 c [97,98,99,100,101,102,103,104,105,106,107,108,109,110,111,112,113,114,115,116,117,118,119,120,121,122,65,66,67,68,69,70,71,72,73,74,75,76,77,78,79,80,81,82,83,84,85,86,87,88,89,90]
  rw[hl] at hi
  have HI:=hi
  clear hl
  have cI:∀ wx,Calls Tryz.prog 246 #[.string ⟨#[c]⟩,.string ⟨#[97,98,99,100,101,102,103,104,105,106,107,108,109,110,111,112,113,114,115,116,117,118,119,120,121,122,65,66,67,68,69,70,71,72,73,74,75,76,77,78,79,80,81,82,83,84,85,86,87,88,89,90]⟩] wx fun e w'=>e=.returned (.bool (M.isLt c.toNat))/\w'=wx:=fun wx=>by
   rw[<-hi];exact Zzi ⟨#[c]⟩ _ wx (by simp[ByteArray.size])
  clear hi HI
  by_cases h3:M.isLt c.toNat=true
  ·have h4:(c.toNat:Int)<128:=by unfold M.isLt at h3;simp at h3;omega
   go_enter Tryz.func273,Tryz.ntmps273
   go_wp2_with (go_at_call 246;refine(cI _).mono ?_;rintro e w' ⟨rfl,rfl⟩)
   go_ret
   exact⟨Za7 (by unfold M.rkR;rw[if_neg H2.out,if_pos h3]),(Below.refl _ _).alloc ler _⟩
  ·have h3':M.isLt c.toNat=false:=by simpa using h3
   clear h3
   go_enter Tryz.func273,Tryz.ntmps273
   go_wp2_with (go_at_call 246;refine(cI _).mono ?_;rintro e w' ⟨rfl,rfl⟩)
   go_ret
   exact⟨Za7 (by unfold M.rkR;rw[if_neg H2.out,h3'];simp),(Below.refl _ _).alloc ler _⟩
theorem Zji(x:ByteArray):((ByteArray.mk #[48])++x).data.toList=48 :: x.data.toList:=by
 rw[ByteArray.data_append];simp
theorem Zhz(x:ByteArray):((ByteArray.mk #[48])++x).size=x.size+1:=by
 rw[ByteArray.size_append];exact Nat.add_comm _ _
theorem nu_of(a b x y:ByteArray)(da:M.Zd3 a.data.toList)(db:M.Zd3 b.data.toList)(hx:M.Zd3 x.data.toList/\M.num x.data.toList=M.num a.data.toList)
 (hy:M.Zd3 y.data.toList/\M.num y.data.toList=M.num b.data.toList) (h:x.size=y.size):nuB a b=Lib.compareBytes x.data.toList y.data.toList:=by
 unfold nuB
 rw[M.Zym da db,M.Zfu hx.1 hy.1 (by simpa using h),hx.2,hy.2]
theorem Zqm(a b:ByteArray)(w:World)(ha:a.size<=8192)(hb:b.size<=8192)(da:M.Zd3 a.data.toList)(db:M.Zd3 b.data.toList):
 Calls Tryz.prog 275 #[.string a,.string b] w fun e w'=>e=.returned (.int .i64 (nuB a b))/\w'=w:=by
 go_enter Tryz.func275,Tryz.ntmps275
 go_wp2
 go_loop [0] (fun u=>∃ x:ByteArray,u=.string x/\x.size<=8192/\Hid (M.Zd3 x.data.toList/\M.num x.data.toList=M.num a.data.toList)) (fun u=>b.size-lenOf u)
 case atStart=>exact⟨a,rfl,ha,da,rfl⟩
 case round=>
  obtain⟨x,rfl,hx,HX⟩:=hrel
  by_cases hlt:x.size<b.size
  ·go_wp2
   go_round
   case rel=>
    refine⟨_,rfl,by rw[Zhz];omega,?_,?_⟩
    ·rw[Zji];exact M.Zk9 HX.out.1
    ·rw[Zji,M.Zl4];exact HX.out.2
   case measure=>simp only[lenOf];rw[Zhz];omega
  ·go_wp2
   go_loop [1] (fun u=>∃ y:ByteArray,u=.string y/\y.size<=x.size/\Hid (M.Zd3 y.data.toList/\M.num y.data.toList=M.num b.data.toList)) (fun u=>x.size-lenOf u)
   case atStart=>exact⟨b,rfl,by omega,db,rfl⟩
   case round=>
    obtain⟨y,rfl,hy,HY⟩:=hrel
    by_cases hlt2:y.size<x.size
    ·go_wp2
     go_round
     case rel=>
      refine⟨_,rfl,by rw[Zhz];omega,?_,?_⟩
      ·rw[Zji];exact M.Zk9 HY.out.1
      ·rw[Zji,M.Zl4];exact HY.out.2
     case measure=>simp only[lenOf];rw[Zhz];omega
    ·have HN:Hid (nuB a b=Lib.compareBytes x.data.toList y.data.toList):=nu_of a b x y da db HX.out HY.out (by omega)
     have hl:Op.bytesLess x.toList y.toList=decide (Lib.compareBytes x.data.toList y.data.toList<0):=by rw[Lib.toList_data,Lib.toList_data];exact M.Zyv _ _
     have hs:(x.toList == y.toList)=decide (Lib.compareBytes x.data.toList y.data.toList=0):=by rw[Lib.toList_data,Lib.toList_data];exact M.same_iff _ _
     have hbd : -1<=Lib.compareBytes x.data.toList y.data.toList/\Lib.compareBytes x.data.toList y.data.toList<=1:=by
      rw[<-HN.out];unfold nuB;rw[M.Zym da db];exact M.Ztq _ _
     obtain h|h|h:Lib.compareBytes x.data.toList y.data.toList = -1\/Lib.compareBytes x.data.toList y.data.toList=0\/Lib.compareBytes x.data.toList y.data.toList=1:=by omega
     ·have hl':Op.bytesLess x.toList y.toList=true:=by rw[hl,h];decide
      have HE:Hid (nuB a b = -1):=HN.out.trans h
      clear hl hs hbd h HN
      go_wp2
      go_ret
      exact⟨Za7 HE.out.symm,rfl⟩
     ·have hl':Op.bytesLess x.toList y.toList=false:=by rw[hl,h];decide
      have hs':(x.toList == y.toList)=true:=by rw[hs,h];decide
      have HE:Hid (nuB a b=0):=HN.out.trans h
      clear hl hs hbd h HN
      go_wp2
      go_ret
      exact⟨Za7 HE.out.symm,rfl⟩
     ·have hl':Op.bytesLess x.toList y.toList=false:=by rw[hl,h];decide
      have hs':(x.toList == y.toList)=false:=by rw[hs,h];decide
      have HE:Hid (nuB a b=1):=HN.out.trans h
      clear hl hs hbd h HN
      go_wp2
      go_ret
      exact⟨Za7 HE.out.symm,rfl⟩
theorem Zxg{x y:ByteArray}{k:Nat}(h:∀ j,j<k->M.Zf8 (x.data.toList.take (noB x)) j=M.Zf8 (y.data.toList.take (noB y)) j)
 (hc:¬ M.Zdu (M.Zf8 (x.data.toList.take (noB x)) k) (M.Zf8 (y.data.toList.take (noB y)) k)=0):
 Ztk x y=M.Zdu (M.Zf8 (x.data.toList.take (noB x)) k) (M.Zf8 (y.data.toList.take (noB y)) k):=by
 unfold Ztk
 have hw:=M.Zq6 h hc
 rw[M.Zjf _ _ _ _ (rfl:noB x = _) (rfl:noB y = _),if_neg (by rw[hw];exact hc),hw]
theorem Yca(x:ByteArray)(k:Nat)(h:k<noB x)(hk:k<x.size):M.Zf8 (x.data.toList.take (noB x)) k=M.rk x[k].toNat:=
 M.Ya7 h (by simpa using hk)
theorem Zuq(x:ByteArray):M.Zd3 ((x.extract (noB x) x.size).extract 0 (diB (x.extract (noB x) x.size))).data.toList:=by
 rw[Zc2];exact M.Zhy _
theorem Zqd(a b:ByteArray)(w:World)(ha:a.size<=8192)(hb:b.size<=8192):
 Calls Tryz.prog 249 #[.string a,.string b] w fun e w'=>e=.returned (.int .i64 (Ztk a b))/\Below w.heap.size w w':=by
 go_enter Tryz.func249,Tryz.ntmps249
 go_wp2
 go_loopw [0,1,5,6,7,8,9,10] (fun u v _ _ _ _ _ _ wr=>∃ (x y:ByteArray),u=.string x/\v=.string y/\Below w.heap.size w wr/\x.size<=a.size/\y.size<=b.size/\Hid (Ztk x y=Ztk a b)) (fun u v _ _ _ _ _ _ _=>lenOf u+lenOf v)
 case atStart=>exact⟨a,b,rfl,rfl,Below.refl _ _,Nat.le_refl _,Nat.le_refl _,rfl⟩
 case round=>
  obtain⟨x,y,rfl,rfl,hB,hx,hy,HV⟩:=hrel
  have hi:=Zzl x
  have hj:=Zzl y
  by_cases he:x.size=0/\y.size=0
  ·obtain⟨hxe,hye⟩:=he
   have HX:=hid hxe
   have HY:=hid hye
   have h1:¬ (0<x.size):=by omega
   have h2:¬ (0<y.size):=by omega
   clear hxe hye
   go_wp2
   go_ret
   refine⟨Za7 ?_,hB⟩
   rw[<-HV.out]
   unfold Ztk
   have e1:x.data.toList=[]:=List.length_eq_zero_iff.mp (by simpa using HX.out)
   have e2:y.data.toList=[]:=List.length_eq_zero_iff.mp (by simpa using HY.out)
   rw[e1,e2];exact(M.Z3i _).symm
  ·have HE:Hid (¬ (x.toList.isEmpty=true/\y.toList.isEmpty=true)):=by
    rw[Lib.toList_data,Lib.toList_data,List.isEmpty_iff,List.isEmpty_iff]
    intro h
    exact he ⟨by simpa using congrArg List.length h.1,by simpa using congrArg List.length h.2⟩
   have hor:0<x.size\/(¬ 0<x.size/\0<y.size):=by omega
   clear he
   rcases hor with hxe|⟨hxe,hye⟩
   all_goals
    go_wp2_with (go_at_call 272;refine(Z5m _ _ (by unfold maxLen;omega)).mono ?_;rintro e w' ⟨rfl,rfl⟩)
    go_loopw [7,8,9] (fun i _ _ wq=>∃ k:Nat,i=.int .i64 k/\k<=noB x+noB y/\Below w.heap.size w wq/\Hid (∀ j,j<k->M.Zf8 (x.data.toList.take (noB x)) j=M.Zf8 (y.data.toList.take (noB y)) j)) (fun i _ _ _=>noB x+noB y-(intOf i).toNat)
    case atStart=>exact⟨0,rfl,Nat.zero_le _,hB,fun j h=>by omega⟩
    case round=>
     obtain⟨k,rfl,hk1,hB2,HJ⟩:=hrel
     by_cases hn:k<noB x
     ·have hkx:k<x.size:=by omega
      have bx:=M.Z45 x[k]
      have HAX:Hid (M.Zf8 (x.data.toList.take (noB x)) k=M.rk x[k].toNat):=Yca x k hn hkx
      by_cases hm:k<noB y
      ·have hky:k<y.size:=by omega
       have bY:=M.Z45 y[k]
       have HAY:Hid (M.Zf8 (y.data.toList.take (noB y)) k=M.rk y[k].toNat):=Yca y k hm hky
       by_cases hq:M.rkR x[k].toNat=M.rkR y[k].toNat
       ·have hq':(M.rkR x[k].toNat != M.rkR y[k].toNat)=false:=by simpa using hq
        have HQ:=hid hq
        clear hq
        go_wp2_with (go_at_call 273;refine(Zjj _ _).mono ?_;rintro e w' ⟨rfl,hb'⟩)
        go_roundw
        case rel=>
         refine⟨k+1,by go_num,by omega,bt (bt hB2 ‹_›) ‹_›,fun j hj=>?_⟩
         by_cases hjk:j<k
         ·exact HJ.out j hjk
         ·obtain rfl:j=k:=by omega
          rw[HAX.out,HAY.out]
          exact M.Zdv.mp ((M.Yac _ _).symm.trans (M.Zdv.mpr HQ.out))
        case measure=>simp[intOf];omega
       ·have hq':(M.rkR x[k].toNat != M.rkR y[k].toNat)=true:=by simpa using hq
        have HQ:=hid hq
        clear hq
        go_wp2_with (first|(go_at_call 273;refine(Zjj _ _).mono ?_;rintro e w' ⟨rfl,hb'⟩)|(go_at_call 274;refine(Zsd _ _).mono ?_;rintro e w' ⟨rfl,rfl⟩))
        go_ret
        refine⟨Za7 ?_,bt (bt hB2 ‹_›) ‹_›⟩
        have e:M.Zdu (M.Zf8 (x.data.toList.take (noB x)) k) (M.Zf8 (y.data.toList.take (noB y)) k)=M.Zdu (M.rkR x[k].toNat) (M.rkR y[k].toNat):=by rw[HAX.out,HAY.out,M.Yac]
        rw[<-HV.out,Zxg HJ.out (by rw[e];exact fun h=>HQ.out (M.Zdv.mp h)),e,M.Zzw]
      ·have HAY:Hid (M.Zf8 (y.data.toList.take (noB y)) k=0):=M.Z0i (by omega)
       have hq':(M.rkR x[k].toNat != 0)=true:=by have:=bx.2.2;simpa using this
       have HQ:=hid bx.2.2
       go_wp2_with (first|(go_at_call 273;refine(Zjj _ _).mono ?_;rintro e w' ⟨rfl,hb'⟩)|(go_at_call 274;refine(Zsd _ _).mono ?_;rintro e w' ⟨rfl,rfl⟩))
       go_ret
       refine⟨Za7 ?_,bt hB2 ‹_›⟩
       have e:M.Zdu (M.Zf8 (x.data.toList.take (noB x)) k) (M.Zf8 (y.data.toList.take (noB y)) k)=M.Zdu (M.rkR x[k].toNat) 0:=by rw[HAX.out,HAY.out,M.Z5a]
       rw[<-HV.out,Zxg HJ.out (by rw[e];exact fun h=>HQ.out (M.Zdv.mp h)),e]
     ·have HAX:Hid (M.Zf8 (x.data.toList.take (noB x)) k=0):=M.Z0i (by omega)
      by_cases hm:k<noB y
      ·have hky:k<y.size:=by omega
       have bY:=M.Z45 y[k]
       have HAY:Hid (M.Zf8 (y.data.toList.take (noB y)) k=M.rk y[k].toNat):=Yca y k hm hky
       have hq':(0 != M.rkR y[k].toNat)=true:=by have:=bY.2.2;simpa using fun h=>this h.symm
       have HQ:=hid bY.2.2
       go_wp2_with (first|(go_at_call 273;refine(Zjj _ _).mono ?_;rintro e w' ⟨rfl,hb'⟩)|(go_at_call 274;refine(Zsd _ _).mono ?_;rintro e w' ⟨rfl,rfl⟩))
       go_ret
       refine⟨Za7 ?_,bt hB2 ‹_›⟩
       have e:M.Zdu (M.Zf8 (x.data.toList.take (noB x)) k) (M.Zf8 (y.data.toList.take (noB y)) k)=M.Zdu 0 (M.rkR y[k].toNat):=by
        rw[HAX.out,HAY.out,M.Zlb,<-M.Z5a,<-M.Zlb]
       rw[<-HV.out,Zxg HJ.out (by rw[e];exact fun h=>HQ.out (M.Zdv.mp h).symm),e]
       refine Eq.trans ?_ (M.Zzw 0 (M.rkR y[k].toNat))
       rw[Int.zero_sub]
      ·have HW:Hid (woB (x.extract 0 (noB x)) (y.extract 0 (noB y))=0):=by
        unfold woB
        rw[Zc2,Zc2]
        exact M.Zq4 HJ.out (by simp;omega) (by simp;omega)
       have hp:diB (x.extract (noB x) x.size)<=x.size-noB x:=by have:=Zzn (x.extract (noB x) x.size);simpa using this
       have hq:diB (y.extract (noB y) y.size)<=y.size-noB y:=by have:=Zzn (y.extract (noB y) y.size);simpa using this
       have cN:∀ wx,Calls Tryz.prog 275 #[.string ((x.extract (noB x) x.size).extract 0 (diB (x.extract (noB x) x.size))),.string ((y.extract (noB y) y.size).extract 0 (diB (y.extract (noB y) y.size)))] wx fun e w'=>e=.returned (.int .i64 (nuB ((x.extract (noB x) x.size).extract 0 (diB (x.extract (noB x) x.size))) ((y.extract (noB y) y.size).extract 0 (diB (y.extract (noB y) y.size)))))/\w'=wx:=fun wx=>
        Zqm _ _ wx (by have:=ext_size (x.extract (noB x) x.size) 0 (diB (x.extract (noB x) x.size));have:=ext_size x (noB x) x.size;omega) (by have:=ext_size (y.extract (noB y) y.size) 0 (diB (y.extract (noB y) y.size));have:=ext_size y (noB y) y.size;omega) (Zuq x) (Zuq y)
       by_cases hn0:nuB ((x.extract (noB x) x.size).extract 0 (diB (x.extract (noB x) x.size))) ((y.extract (noB y) y.size).extract 0 (diB (y.extract (noB y) y.size)))=0
       ·have hn':(nuB ((x.extract (noB x) x.size).extract 0 (diB (x.extract (noB x) x.size))) ((y.extract (noB y) y.size).extract 0 (diB (y.extract (noB y) y.size))) != 0)=false:=by simpa using hn0
        have HN:=hid hn0
        clear hn0
        go_wp2_with (go_at_call 272;refine(Zvb _ _ (by unfold maxLen;simp;omega)).mono ?_;rintro e w' ⟨rfl,rfl⟩)
        go_quiet ((go_at_call 275;go_must (exact Calls.quiet_of_same (cN _))))
        go_wp2
        go_roundw
        case rel=>
         refine⟨_,_,rfl,rfl,bt_n hB2 _,?_,?_,?_⟩
         ·have:=ext_size (x.extract (noB x) x.size) (diB (x.extract (noB x) x.size)) (x.size-noB x);have:=ext_size x (noB x) x.size;omega
         ·have:=ext_size (y.extract (noB y) y.size) (diB (y.extract (noB y) y.size)) (y.size-noB y);have:=ext_size y (noB y) y.size;omega
         ·show Ztk _ _ = Ztk a b
          rw[<-HV.out];exact(Zzv x y HW.out HN.out).symm
        case measure=>
         have:=Z95 x y HE.out
         simp[lenOf]
         omega
       ·have hn':(nuB ((x.extract (noB x) x.size).extract 0 (diB (x.extract (noB x) x.size))) ((y.extract (noB y) y.size).extract 0 (diB (y.extract (noB y) y.size))) != 0)=true:=by simpa using hn0
        have HN:=hid hn0
        clear hn0
        go_wp2_with (go_at_call 272;refine(Zvb _ _ (by unfold maxLen;simp;omega)).mono ?_;rintro e w' ⟨rfl,rfl⟩)
        go_quiet ((go_at_call 275;go_must (exact Calls.quiet_of_same (cN _))))
        go_wp2
        go_ret
        refine⟨Za7 ?_,bt_n hB2 _⟩
        rw[<-HV.out];exact(Zug x y HW.out HN.out).symm
end Go.Proofs.YtgnfknjopafngabGreatDoor
