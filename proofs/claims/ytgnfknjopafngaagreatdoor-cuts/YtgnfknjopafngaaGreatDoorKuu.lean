import Derived.Test.YtgnfknjopafngaaGreatDoorKut
set_option maxRecDepth 100000
set_option maxHeartbeats 2000000
namespace Go.Proofs.YtgnfknjopafngaaGreatDoor
open Go.RowKit
def Zm6(b:List UInt8)(k:Nat):List (List UInt8):=(List.range k).flatMap fun i=>if Lib.hasPrefix (b.drop i) [47]=true then [b.take i] else []
theorem Ziv(b:List UInt8):Zay b=Zm6 b b.length:=rfl
theorem Zvy{b:List UInt8}{k:Nat}(h:Lib.hasPrefix (b.drop k) [47]=true):Zm6 b (k+1)=Zm6 b k++[b.take k]:=by
 unfold Zm6;rw[List.range_succ,List.flatMap_append];simp[h]
theorem Zz8{b:List UInt8}{k:Nat}(h:Lib.hasPrefix (b.drop k) [47]=false):Zm6 b (k+1)=Zm6 b k:=by
 unfold Zm6;rw[List.range_succ,List.flatMap_append];simp[h]
theorem Zil(b:List UInt8):∀ k,(Zm6 b k).length<=k
 | 0=>by simp[Zm6]
 | k+1=>by
  have:=Zil b k
  cases h:Lib.hasPrefix (b.drop k) [47] with
  | true=>rw[Zvy h];simp;omega
  | false=>rw[Zz8 h];omega
theorem Zkd(s:ByteArray)(w:World)(hs:s.size<=100000):
 Calls Tryz.prog 219 #[.string s] w fun e w'=>∃ v,e=.returned v/\w'.ownsRow w.heap.size 9 1 v (Zay s.data.toList).length ((Zay s.data.toList).map Zbe)/\Below w.heap.size w w':=by
 obtain⟨i0,hi0,hz0,hz1,hz2⟩:=info_parts Zco
 go_enter Tryz.func219,Tryz.ntmps219
 go_wp2
 go_loopw [3,4,7] (fun v _ j wr=>∃ (l:List (List UInt8)) (k:Nat),j=.int .i64 k/\k<=s.size/\l.length<=k/\wr.ownsRow w.heap.size 9 1 v l.length (l.map Zbe)/\Below w.heap.size w wr/\Hid (l=Zm6 s.data.toList k)) (fun _ _ j _=>s.size-(intOf j).toNat)
 case atStart=>exact⟨[],0,rfl,Nat.zero_le _,Nat.le_refl _,World.ownsRow_nil _ _ _ _,Below.refl _ _,rfl⟩
 case round=>
  obtain⟨l,k,rfl,hk,hlk,qV,hBr,HR⟩:=hrel
  have hsr:=hBr.size
  by_cases hlt:k<s.size
  ·have cH:=Tryz.strings_HasPrefix (s.extract k s.size) ⟨#[47]⟩ wr
   have e1:(s.extract k s.size).data.toList=s.data.toList.drop k:=Zfc s k
   have e2:(s.extract 0 k).data.toList=s.data.toList.take k:=Zc2 s k
   rw[e1] at cH
   cases hp:Lib.hasPrefix (s.data.toList.drop k) [47] with
   | false=>
    have cH2:Calls Tryz.prog 255 #[.string (s.extract k s.size),.string ⟨#[47]⟩] wr fun e w'=>e=.returned (.bool false)/\w'=wr:=by rw[<-hp];exact cH
    have HN:Hid (l=Zm6 s.data.toList (k+1)):=by show _ = _;rw[Zz8 hp];exact HR.out
    clear cH hp e1 e2 HR
    go_wp2_with (go_at_call 255;refine cH2.mono ?_;rintro e w' ⟨rfl,rfl⟩)
    go_roundw
    case rel=>exact⟨l,k+1,by go_num,by omega,by omega,qV,hBr,HN⟩
    case measure=>simp[intOf];omega
   | true=>
    have cH2:Calls Tryz.prog 255 #[.string (s.extract k s.size),.string ⟨#[47]⟩] wr fun e w'=>e=.returned (.bool true)/\wr=w':=by rw[<-hp];exact cH.mono fun e w' h=>⟨h.1,h.2.symm⟩
    have HN:Hid (l++[(s.extract 0 k).data.toList]=Zm6 s.data.toList (k+1)):=by show _ = _;rw[Zvy hp,e2,HR.out]
    clear cH hp e1 e2 HR
    go_wp2_with (first|(go_at_call 255;refine cH2.mono ?_;rintro e w' ⟨rfl,rfl⟩)|(at_builtin;refine wpList_append_own _ rfl _ _ 43 rfl w.heap.size 9 i0 (.string ⟨#[]⟩) 1 16 Tryz.underlying43 hi0 hz0 hz1 hz2 rfl (by decide) _ _ _ rfl (qV.alloc _) ⟨wr.heap.size,0,none⟩ 1 1 [.string (s.extract 0 k)] rfl rfl ?c1 ?c2 ?c3 ?c4 ?c5 ?_))
    case c1=>exact Zca _ _ _
    case c2=>intro u hu;simp at hu;subst hu;rfl
    case c3=>unfold maxLen;omega
    case c4=>omega
    case c5=>simp;omega
    intro v' w3 hown' hgrow _
    have R1:w3.ownsRow w.heap.size 9 1 v' (l++[(s.extract 0 k).data.toList]).length ((l++[(s.extract 0 k).data.toList]).map Zbe):=by
     rw[List.map_append,List.length_append];exact hown'
    have R2:Below w.heap.size w w3:=
     (hBr.alloc (by omega) _).grown hgrow (by simp;omega) (fun j hj=>(qV.lt j hj).1)
    clear hown' hgrow qV
    go_wp2
    go_roundw
    case rel=>exact⟨_,k+1,by go_num,by omega,by simp;omega,R1,R2,HN⟩
    case measure=>simp[intOf];omega
  ·have hkk:k=s.size:=by omega
   have HE:Hid (l=Zay s.data.toList):=by show _ = _;rw[Ziv,Zaq,<-hkk];exact HR.out
   obtain⟨av,cv,hv⟩:=Zac qV
   subst hv
   clear hkk
   go_wp2
   go_ret
   exact⟨_,rfl,by rw[<-HE.out];exact qV,hBr⟩
theorem Zif(l:List (List UInt8))(x:ByteArray)(v:Value)(B:Nat)(w:World)(h:w.ownsRow B 9 1 v l.length (l.map Zbe))(hl:l.length<=1000000):
 Calls Tryz.prog 218 #[v,.string x] w fun e w'=>e=.returned (.bool (l.contains x.data.toList))/\w'=w:=by
 rcases Zas.own h with ⟨rfl,h0,_⟩|⟨g,cap,rfl,h1,h2,h3,h4⟩
 ·obtain rfl:=List.length_eq_zero_iff.mp h0
  exact Tryz.slices_Contains_string_empty _ _ x w
 ·have hc:=Tryz.slices_Contains_string g 0 l.length cap (l.map fun q=>⟨q.toArray⟩) x w (by simp) (by omega) (fun j hj=>by
   rw[List.length_map] at hj
   rw[Nat.zero_add]
   have:=h4 j (Zbe l[j]) (by simp[hj])
   rw[this]
   simp[Zbe,hj])
  refine hc.mono fun e w' h=>⟨?_,h.2⟩
  rw[h.1]
  congr 2
  rw[Bool.eq_iff_iff,Lib.containsS_iff,List.contains_iff_mem,List.take_of_length_le (by simp)]
  constructor
  ·intro hm
   obtain⟨q,hq,e⟩:=List.mem_map.1 hm
   subst e
   exact hq
  ·intro hm
   exact List.mem_map.2 ⟨_,hm,mk_data x⟩
def Zpk(a b:ByteArray):Bool:=Zfq a.data.toList b.data.toList
theorem Z3w(a b:ByteArray)(w:World)(ha:a.size<=100000)(hb:b.size<=100000):
 Calls Tryz.prog 175 #[.string a,.string b] w fun e w'=>e=.returned (.bool (Zpk a b))/\Below w.heap.size w w':=by
 have HC:Hid (Zpk a b=(a.toList == b.toList || (Zay b.data.toList).contains a.data.toList || (Zay a.data.toList).contains b.data.toList)):=by
  show _ = _
  unfold Zpk Zfq
  rw[Lib.toList_data,Lib.toList_data]
 have lB:(Zay b.data.toList).length<=1000000:=by have:=Zil b.data.toList b.data.toList.length;have:=Zaq b;rw[Ziv];omega
 have lA:(Zay a.data.toList).length<=1000000:=by have:=Zil a.data.toList a.data.toList.length;have:=Zaq a;rw[Ziv];omega
 have cB:=Zkd b w hb
 by_cases h0:(a.toList == b.toList)=true
 ·have HE:Hid (Zpk a b=true):=by show _ = _;rw[HC.out,h0];rfl
  clear cB
  go_enter Tryz.func175,Tryz.ntmps175
  go_wp2
  go_ret
  exact⟨Zad HE.out.symm,Below.refl _ _⟩
 replace h0:(a.toList == b.toList)=false:=by simpa using h0
 cases h1:(Zay b.data.toList).contains a.data.toList with
 | true=>
  have HE:Hid (Zpk a b=true):=by show _ = _;rw[HC.out,h0,h1];rfl
  go_enter Tryz.func175,Tryz.ntmps175
  go_wp2_with fail
  refine cB.mono ?_
  rintro e w1 ⟨v,rfl,hv,hB1⟩
  have cC:=Zif _ a v _ w1 hv lB
  rw[h1] at cC
  go_wp2_with (go_at_call 218;refine cC.mono ?_;rintro e w' ⟨rfl,rfl⟩)
  go_ret
  exact⟨Zad HE.out.symm,hB1⟩
 | false=>
  have HE:Hid (Zpk a b=(Zay a.data.toList).contains b.data.toList):=by show _ = _;rw[HC.out,h0,h1];rfl
  go_enter Tryz.func175,Tryz.ntmps175
  go_wp2_with fail
  refine cB.mono ?_
  rintro e w1 ⟨v,rfl,hv,hB1⟩
  have cC:=Zif _ a v _ w1 hv lB
  rw[h1] at cC
  replace cC:Calls Tryz.prog 218 #[v,.string a] w1 fun e w'=>e=.returned (.bool false)/\w1=w':=cC.mono fun e w' h=>⟨h.1,h.2.symm⟩
  have cA:=Zkd a w1 ha
  go_wp2_with (go_at_call 218;refine cC.mono ?_;rintro e w' ⟨rfl,rfl⟩)
  refine cA.mono ?_
  rintro e w2 ⟨v2,rfl,hv2,hB2⟩
  have cD:=Zif _ b v2 _ w2 hv2 lA
  generalize (Zay a.data.toList).contains b.data.toList=r at HE cD
  go_wp2_with (go_at_call 218;refine cD.mono ?_;rintro e w' ⟨rfl,rfl⟩)
  go_ret
  exact⟨Zad HE.out.symm,bt hB1 hB2⟩
abbrev SFl:Type:={ f:M.Fl // f.path.length<=100000 }
def Zzu(x:SFl):List Value:=[Zbe x.1.path,Zbe x.1.content]
theorem Zqc(X:ByteArray)(fb:Nat)(g:SFl)(W:World)(hX:X.size<=100000)(hf:W.cell? ⟨fb,0,none⟩=some (.string X)):
 Calls Tryz.prog 174 #[.agg #[Zbe g.1.path,Zbe g.1.content],.pointer (some ⟨fb,0,none⟩)] W fun e w'=>e=.returned (.bool (Zfq X.data.toList g.1.path))/\Below W.heap.size W w':=by
 obtain⟨⟨P,C⟩,hg⟩:=g
 have cC:=fun wx=>Z3w X ⟨P.toArray⟩ wx hX (by have:=Zaq ⟨P.toArray⟩;simp at this hg ⊢;omega)
 have e0:Zpk X ⟨P.toArray⟩=Zfq X.data.toList P:=rfl
 rw[e0] at cC
 unfold Zbe
 generalize Zfq X.data.toList P=r at cC ⊢
 have hlt:fb<W.heap.size:=by
  rcases Nat.lt_or_ge fb W.heap.size with h|h
  ·exact h
  ·simp[World.cell?,Array.getElem?_eq_none h] at hf
 have hf2:∀ o,(W.alloc o).cell? ⟨fb,0,none⟩=some (.string X):=fun o=>(World.cell?_alloc_past _ _ _ hlt).trans hf
 go_enter Tryz.func174,Tryz.ntmps174
 go_wp2_with fail
 refine(cC _).mono ?_
 rintro e w' ⟨rfl,hB⟩
 go_wp2
 go_ret
 exact⟨rfl,bt ((Below.refl _ W).alloc ler _) hB⟩
theorem Zs4(fv:Value)(w:World):
 Calls Tryz.prog 217 #[.slice none 0 0,fv] w fun e w'=>e=.returned (.int .i64 (-1))/\w'=w:=by
 go_enter Tryz.func217,Tryz.ntmps217
 go_wp2
 refine wp_loop_rounds 1 ?_
 rw[rounds_succ]
 go_wp2
 go_ret
 exact⟨rfl,rfl⟩
theorem Znc(fv:Value)(w:World):
 Calls Tryz.prog 173 #[.slice none 0 0,fv] w fun e w'=>e=.returned (.bool false)/\w'=w:=by
 have cI:=Zs4 fv
 go_enter Tryz.func173,Tryz.ntmps173
 go_wp2_with (go_at_call 217;refine(cI _).mono ?_;rintro e w' ⟨rfl,rfl⟩)
 go_ret
 exact⟨rfl,rfl⟩
theorem Zo5{l:List M.Fl}{k:Nat}(hk:k<l.length):(Zaf l)[2*k+1]? = some (Zbe l[k].content):=by
 induction l generalizing k with
 | nil=>simp at hk
 | cons f l ih=>
  cases k with
  | zero=>simp[Zaf,Zej]
  | succ k=>
   have:=ih (k:=k) (by simpa using hk)
   simp only[Zaf,List.flatMap_cons,Zej] at this ⊢
   rw[show 2*(k+1)+1=2*k+1+1+1 by omega]
   simpa using this
theorem sfls{l:List M.Fl}(h:∀ f∈l,f.path.length<=100000):∃ zs:List SFl,l=zs.map Subtype.val:=by
 refine⟨l.attach.map fun x=>⟨x.1,h x.1 x.2⟩,?_⟩
 simp
theorem Zm3(X:ByteArray)(fb B:Nat)(l:List M.Fl)(v:Value)(w:World)(hX:X.size<=100000)(hf:w.cell? ⟨fb,0,none⟩=some (.string X))(hl:l.length<=1000000)
 (h:w.ownsRow B 159 2 v l.length (Zaf l)) (hs:∀ f∈l,f.path.length<=100000):
 Calls Tryz.prog 173 #[v,.func (.func 174) #[] #[.pointer (some ⟨fb,0,none⟩)]] w fun e w'=>e=.returned (.bool (l.any fun g=>Zfq X.data.toList g.path))/\Below w.heap.size w w':=by
 rcases Zas.own h with ⟨rfl,h0,_⟩|⟨g,cap,rfl,h1,h2,h3,h4⟩
 ·obtain rfl:=List.length_eq_zero_iff.mp h0
  exact(Znc _ w).mono fun e w' h=>⟨h.1,by rw[h.2];exact Below.refl _ _⟩
 ·obtain⟨zs,rfl⟩:=sfls hs
  haveI:Inhabited SFl:=⟨⟨⟨[],[]⟩,Nat.zero_le _⟩⟩
  have hc:=AnyQ.slices_ContainsFunc Tryz.layContains 2 Tryz.isAgg159 Tryz.sizeOf159 Zzu (fun _=>rfl) (fun x:SFl=>Zfq X.data.toList x.1.path) 174 #[.pointer (some ⟨fb,0,none⟩)]
   (enters_of Tryz.func174 (by kernel_rfl) rfl) g 0 (zs.map Subtype.val).length cap zs w
   (fun W x hb=>(Zqc X fb x W hX ((hb.cell (p:=⟨fb,0,none⟩) (World.block_lt_of_cell? _ _ hf)).trans hf)).mono fun e w' h=>⟨h.1,hb.trans (h.2.mono hb.size)⟩)
   (by simp) (by omega) h3.1 (fun j hj i u hu=>by
     rw[Nat.zero_add]
     have e:zs[j]! = zs[j]:=getElem!_pos zs j hj
     rw[e] at hu
     refine h4 (j*2+i) u ?_
     unfold Zzu at hu
     have hj':j<(zs.map Subtype.val).length:=by simpa using hj
     match i,hu with
     | 0,hu=>
      have:=Zgp hj'
      rw[Nat.add_zero,Nat.mul_comm,this]
      simpa using hu
     | 1,hu=>
      have:=Zo5 hj'
      rw[Nat.mul_comm,this]
      simpa using hu)
  refine hc.mono fun e w' h=>⟨?_,h.2⟩
  rw[h.1]
  congr 2
  rw[List.take_of_length_le (by simp),List.any_map]
  rfl
theorem Ya1:(Tryz.prog.info? 159).map (fun i=>(i.zero,i.size,i.bytes))=some (some (.agg #[.string ⟨#[]⟩,.string ⟨#[]⟩]),2,32):=by kernel_rfl
def Zsv(o:Option (List M.Fl))(B:Nat)(fv:Value)(w:World)(e:Ending)(w':World):Prop:=match o with
 | none=>Zce e/\Below w.heap.size w w'
 | some l=>∃ v' wx,e=.returned v'/\w'.ownsRow B 159 2 v' l.length (Zaf l)/\Below w.heap.size w wx/\wx.grownBy w' fv.ownBlock
theorem Zzj{o:Option (List M.Fl)}{B:Nat}{fv:Value}{w:World}{e:Ending}{w':World}(ho:o=none)(h:Zce e)(hb:Below w.heap.size w w'):Zsv o B fv w e w':=by
 subst ho;exact⟨h,hb⟩
theorem Zxi(l:List M.Fl)(X Y:ByteArray)(B:Nat)(fv:Value)(w:World)(hX:X.size<=100000)(hl:l.length<=1000000)(hB:B<=w.heap.size)
 (h:w.ownsRow B 159 2 fv l.length (Zaf l)) (hs:∀ f∈l,f.path.length<=100000):
 Calls Tryz.prog 137 #[fv,.agg #[.string X,.string Y]] w (Zsv (if l.length<4/\(l.any fun g=>Zfq X.data.toList g.path)=false then some (l++[⟨X.data.toList,Y.data.toList⟩]) else none) B fv w):=by
 obtain⟨i0,hi0,hz0,hz1,hz2⟩:=info_parts Ya1
 obtain⟨O,HO⟩:∃ O,Hid (O=if l.length<4/\(l.any fun g=>Zfq X.data.toList g.path)=false then some (l++[(⟨X.data.toList,Y.data.toList⟩:M.Fl)]) else none):=⟨_,rfl⟩
 rw[<-HO.out]
 have cY:=Zfn
 have cN:=Zes
 have hmf:∀ (fn:Fn) (first cap:Array Value) (w:World),(Instr.makeFunc fn first cap).run Tryz.prog w=.ok (.func fn first cap) w:=fun _ _ _ _=>rfl
 obtain⟨hB1,hz,hcl,hfz⟩:=Zme w [.string X,.string Y] 159 0
 replace hB1:Below w.heap.size w (w.alloc (.cells #[.string X,.string Y] 159)):=hB1
 replace hz:(w.alloc (.cells #[.string X,.string Y] 159)).heap.size=w.heap.size+1:=hz
 have q0:(w.alloc (.cells #[.string X,.string Y] 159)).cell? ⟨w.heap.size,0,none⟩=some (.string X):=hcl 0 _ rfl
 have q1:(w.alloc (.cells #[.string X,.string Y] 159)).cell? ⟨w.heap.size,1,none⟩=some (.string Y):=hcl 1 _ rfl
 have hown1:=own_below h hB1
 have cF:=Zm3 X w.heap.size B l fv _ hX q0 hl hown1 hs
 obtain⟨af,cf,ef⟩:=Zac h
 subst ef
 by_cases h4:l.length<4
 ·have h4':(l.length:Int)<4:=by omega
  cases hcl2:(l.any fun g=>Zfq X.data.toList g.path) with
  | true=>
   rw[hcl2] at cF
   have HE:Hid (O=none):=HO.out.trans (if_neg (by rw[hcl2];simp))
   clear hcl hfz hown1 hs h q0 q1 hz hcl2
   go_enter Tryz.func137,Tryz.ntmps137
   go_wp2_with (first|(go_at_call 83;refine(cY _).mono ?_;rintro e w' ⟨rfl,rfl⟩)|(go_at_call 173;refine cF.mono ?_;rintro e w2 ⟨rfl,hB2⟩)|(go_at_call 83;refine(cN _).mono ?_;rintro e w' ⟨rfl,rfl⟩))
   exact⟨rfl,Zzj HE.out rfl (bt hB1 hB2)⟩
  | false=>
   rw[hcl2] at cF
   have HE:Hid (O=some (l++[(⟨X.data.toList,Y.data.toList⟩:M.Fl)])):=HO.out.trans (if_pos ⟨h4,hcl2⟩)
   replace cY:∀ wx,Calls Tryz.prog 83 #[.bool true] wx fun e w'=>e=.returned (.tuple #[])/\wx=w':=fun wx=>(cY wx).mono fun e w' h=>⟨h.1,h.2.symm⟩
   have HOW:=hid hown1
   have HQ0:=hid q0
   have HQ1:=hid q1
   have HZ:=hid hz
   clear hcl hfz hown1 hs h q0 q1 hz hcl2 cN
   go_enter Tryz.func137,Tryz.ntmps137
   go_wp2_with ((go_at_call 83;refine(cY _).mono ?_;rintro e w' ⟨rfl,rfl⟩))
   refine cF.mono ?_
   rintro e w2 ⟨rfl,hB2⟩
   have r0:=(hB2.cell (p:=⟨w.heap.size,0,none⟩) (by show w.heap.size < _;rw[HZ.out];omega)).trans HQ0.out
   have r1:=(hB2.cell (p:=⟨w.heap.size,1,none⟩) (by show w.heap.size < _;rw[HZ.out];omega)).trans HQ1.out
   have hown2:=own_below HOW.out hB2
   have hs2:w.heap.size<w2.heap.size:=by have:=hB2.size;have:=HZ.out;omega
   have HB2:Hid (Below w.heap.size w w2):=bt hB1 hB2
   clear hB2 cF
   go_wp2_with (first|(go_at_call 83;refine(cY _).mono ?_;rintro e w' ⟨rfl,rfl⟩)|(at_builtin;refine wpList_append_own _ rfl _ _ 106 rfl B 159 i0 (.agg #[.string ⟨#[]⟩,.string ⟨#[]⟩]) 2 32 Tryz.underlying106 hi0 hz0 hz1 hz2 rfl (by decide) _ _ _ rfl (hown2.alloc _) ⟨w2.heap.size,0,none⟩ 1 1 [.string X,.string Y] rfl rfl ?c1 ?c2 ?c3 ?c4 ?c5 ?_))
   case c1=>exact Zk7 _ [.string X,.string Y] _
   case c2=>intro u hu;simp at hu;rcases hu with rfl|rfl <;> rfl
   case c3=>unfold maxLen;omega
   case c4=>omega
   case c5=>simp;omega
   intro v' w3 hown' hgrow _
   obtain⟨av,cv,ev⟩:=Zac hown'
   subst ev
   go_wp2
   go_ret
   refine(show Zsv O B (.slice af l.length cf) w _ _ from ?_)
   rw[HE.out]
   refine⟨_,w2.alloc (.cells #[.string X,.string Y] 159),rfl,?_,HB2.out.alloc (by omega) _,hgrow⟩
   rw[Zf4,List.length_append]
   exact hown'
 ·have h4':¬ (l.length:Int)<4:=by omega
  have hd:decide ((l.length:Int)<4)=false:=by simp;omega
  have HE:Hid (O=none):=HO.out.trans (if_neg (fun h=>h4 h.1))
  clear hcl hfz hown1 hs h q0 q1 hz cF cY
  go_enter Tryz.func137,Tryz.ntmps137
  go_wp2_with ((go_at_call 83;refine(cN _).mono ?_;rintro e w' ⟨rfl,rfl⟩))
  exact⟨rfl,Zzj HE.out rfl hB1⟩
theorem Ya0:(Tryz.prog.info? 153).map (fun i=>(i.zero,i.size,i.bytes))=some (some (.slice none 0 0),1,24):=by kernel_rfl
def Zfr(s:List UInt8):Option (List M.Ch):=Zb8 Zbo 3 s [32,124,32]
theorem Zsp(s:ByteArray)(w:World)(hw:Zby w)(hs:s.size<=100000):
 Calls Tryz.prog 132 #[.string s] w (Zmk (Zfr s.data.toList) 156 3 Zak w):=by
 have c1:=Zjw s ⟨#[32,124,32]⟩ 3 w hw hs (by decide)
 have HG:Zfr s.data.toList=Zb8 Zbo 3 s.data.toList (ByteArray.mk #[32,124,32]).data.toList:=rfl
 rw[<-HG] at c1
 cases ho:Zfr s.data.toList with
 | none=>
  rw[ho] at c1
  replace c1:Calls Tryz.prog 134 #[.string s,.string ⟨#[32,124,32]⟩,.int .i64 3,.func (.func 135) #[] #[]] w fun e w'=>Zce e/\Below w.heap.size w w':=c1.mono fun e w' h=>⟨h.2,h.1⟩
  go_enter Tryz.func132,Tryz.ntmps132
  go_wp2_with fail
  refine c1.mono ?_
  rintro e w' ⟨rfl,hB⟩
  go_wp2
  exact⟨rfl,Zlt rfl rfl hB⟩
 | some l=>
  rw[ho] at c1
  replace c1:Calls Tryz.prog 134 #[.string s,.string ⟨#[32,124,32]⟩,.int .i64 3,.func (.func 135) #[] #[]] w fun e w'=>∃ a cap,e=.returned (.slice a l.length cap)/\w'.ownsRow w.heap.size 156 3 (.slice a l.length cap) l.length (Zak l)/\Below w.heap.size w w':=c1.mono fun e w' h=>by
   obtain⟨h1,u,h2,h3⟩:=h
   obtain⟨a,cap,rfl⟩:=Zac h3
   exact⟨a,cap,h2,h3,h1⟩
  go_enter Tryz.func132,Tryz.ntmps132
  go_wp2_with fail
  refine c1.mono ?_
  rintro e w' ⟨a,cap,rfl,ho,hB⟩
  go_wp2
  go_ret
  exact Zr9 l rfl ho hB
def Zeg(w:World)(B:Nat)(v:Value)(ls:List (List M.Ch)):Prop:=
 ∃ vs:List Value,w.ownsRow B 153 1 v ls.length vs/\∀ (i:Nat) x,ls[i]? = some x->∃ u,vs[i]? = some u/\w.ownsRow B 156 3 u x.length (Zak x)
theorem Zeg.nil(w:World)(B:Nat):Zeg w B (.slice none 0 0) []:=⟨[],World.ownsRow_nil _ _ _ _,fun i x h=>by simp at h⟩
theorem Zeg.below{w w':World}{B:Nat}{v:Value}{ls:List (List M.Ch)}(h:Zeg w B v ls)(hb:Below w.heap.size w w'):Zeg w' B v ls:=by
 obtain⟨vs,h1,h2⟩:=h
 exact⟨vs,own_below h1 hb,fun i x hx=>by obtain⟨u,a,b⟩:=h2 i x hx;exact⟨u,a,own_below b hb⟩⟩
theorem Zeg.needs{w:World}{B lo:Nat}{v:Value}{ls:List (List M.Ch)}(h:Zeg w B v ls)(hl:lo<=B):Za9 w lo w.heap.size v ls:=by
 obtain⟨vs,h1,h2⟩:=h
 refine⟨vs,(Zas.own h1).wide hl ler,by have:=h1.1;omega,fun i x hx=>?_⟩
 obtain⟨u,a,b⟩:=h2 i x hx
 exact⟨u,a,(Zas.own b).wide hl ler⟩
theorem Zeg.push{w w1:World}{B:Nat}{v v' u:Value}{ls:List (List M.Ch)}{l:List M.Ch}{vs:List Value}{o:Obj}(h1:w.ownsRow B 153 1 v ls.length vs)
 (h2:∀ (i:Nat) x,ls[i]? = some x->∃ u,vs[i]? = some u/\w.ownsRow B 156 3 u x.length (Zak x))
 (hu:w.ownsRow B 156 3 u l.length (Zak l)) (ho:w1.ownsRow B 153 1 v' (ls.length+1) (vs++[u])) (hg:(w.alloc o).grownBy w1 v.ownBlock):Zeg w1 B v' (ls++[l]):=by
 have keep:∀ {x:Value} {n:Nat} {ys:List Value},w.ownsRow B 156 3 x n ys->w1.ownsRow B 156 3 x n ys:=fun hx=>
  (hx.alloc o).kept hg (Zvx h1 hx (by decide))
 have hl:vs.length=ls.length:=by have:=h1.1;omega
 refine⟨vs++[u],by simpa using ho,fun i x hx=>?_⟩
 by_cases hi:i<ls.length
 ·rw[List.getElem?_append_left hi] at hx
  obtain⟨y,a,b⟩:=h2 i x hx
  exact⟨y,by rw[List.getElem?_append_left (by omega)];exact a,keep b⟩
 ·rw[List.getElem?_append_right (by omega)] at hx
  have hi0:i-ls.length=0:=by
   by_cases e:i-ls.length=0
   ·exact e
   ·rw[List.getElem?_eq_none (by simp;omega)] at hx;cases hx
  rw[hi0] at hx
  simp at hx
  subst hx
  exact⟨u,by rw[List.getElem?_append_right (by omega),hl,hi0];rfl,keep hu⟩
theorem Zeg.form{w:World}{B:Nat}{v:Value}{ls:List (List M.Ch)}(h:Zeg w B v ls):∃ a cap,v=.slice a ls.length cap:=by
 obtain⟨vs,h1,_⟩:=h;exact Zac h1
theorem Zeg.base{w:World}{B B':Nat}{v:Value}{ls:List (List M.Ch)}(h:Zeg w B v ls)(hB:B'<=B):Zeg w B' v ls:=by
 obtain⟨vs,h1,h2⟩:=h
 exact⟨vs,Zf3 h1 hB,fun i x hx=>by obtain⟨u,a,b⟩:=h2 i x hx;exact⟨u,a,Zf3 b hB⟩⟩
def Zxn(o:Option (List (List M.Ch)))(w:World)(e:Ending)(w':World):Prop:=
 Below w.heap.size w w'/\match o with
  | none=>Zce e
  | some l=>∃ v,e=.returned v/\Zeg w' w.heap.size v l
theorem Zzh{o:Option (List (List M.Ch))}{w:World}{e:Ending}{w':World}(ho:o=none)(h:Zce e)(hb:Below w.heap.size w w'):Zxn o w e w':=by
 subst ho;exact⟨hb,h⟩
theorem Z78{o:Option (List (List M.Ch))}{w:World}{v:Value}{w':World}(l:List (List M.Ch))(ho:o=some l)(h:Zeg w' w.heap.size v l)(hb:Below w.heap.size w w'):Zxn o w (.returned v) w':=by
 subst ho;exact⟨hb,v,rfl,h⟩
theorem Zsz(s sep:ByteArray)(most:Nat)(w:World)(hw:Zby w)(hs:s.size<=100000)(h1:1<=sep.size):
 Calls Tryz.prog 131 #[.string s,.string sep,.int .i64 most,.func (.func 132) #[] #[]] w (Zxn (Zb8 Zfr most s.data.toList sep.data.toList) w):=by
 obtain⟨i0,hi0,hz0,hz1,hz2⟩:=info_parts Ya0
 obtain⟨ps,hps⟩:=Zdm (Zeh s sep)
 have hpn:ps.length<=s.size+1:=by
  have:=(M.Zbx s.data.toList sep.data.toList).2
  have e:(Zeh s sep).length=ps.length:=by rw[hps];simp
  have:(Zeh s sep).length<=s.data.toList.length+1:=this
  simp only[Array.length_toList,ByteArray.size_data] at this
  omega
 have HZ:Hid (∀ p∈ps,p.size<=s.size):=fun p hp=>Zb7 hps p hp
 have c1:=Zir s sep ps w hw (by omega) h1 hps
 have HL:Hid (Zb8 Zfr most s.data.toList sep.data.toList=if ps.length<=most then M.Zfg Zfr (ps.map (fun p=>p.data.toList)) else none):=by
  show _ = _
  unfold Zb8
  rw[show M.Zcn s.data.toList sep.data.toList = _ from hps,List.length_map]
 have cY:=Zfn
 have cN:=Zes
 have eR:∀ args w,(callFunc 132 args).run Tryz.prog w=.ok (.enter 132 args) w:=enters_of Tryz.func132 (by kernel_rfl) rfl
 have hw':Hid (Zby w):=hw
 clear hps hw
 by_cases hm:ps.length<=most
 ·have hm':(ps.length:Int)<=most:=by omega
  clear cN
  go_enter Tryz.func131,Tryz.ntmps131
  go_wp2_with (first|(go_at_call 85;refine c1.mono ?_;rintro e w' ⟨rfl,rfl⟩)|(go_at_call 83;refine(cY _).mono ?_;rintro e w' ⟨rfl,rfl⟩))
  obtain⟨hB0,hzs,_,_⟩:=Zme w (ps.map Value.string) 9 0
  have HC:Hid (∀ j (hj:j<ps.length),(w.alloc (.cells (ps.map Value.string).toArray 9)).cell? ⟨w.heap.size,j,none⟩=some (.string ps[j])):=fun j hj=>Zwz w ps _ j hj
  replace hB0:Below w.heap.size w (w.alloc (.cells (ps.map Value.string).toArray 9)):=hB0
  replace hzs:(w.alloc (.cells (ps.map Value.string).toArray 9)).heap.size=w.heap.size+1:=hzs
  generalize w.alloc (.cells (ps.map Value.string).toArray 9)=w1 at hB0 HC hzs ⊢
  have hM1:Hid (Zby w1):=hw'.out.below hB0
  have HS:=hid hzs
  clear hzs
  go_loopw [10,12,23] (fun v m i wr=>∃ (l:List (List M.Ch)) (k:Nat),i=.int .i64 k/\k<=ps.length/\l.length=k/\Zeg wr w1.heap.size v l/\Below w1.heap.size w1 wr/\Hid (Z50 Zfr ps k l)) (fun _ _ i _=>ps.length-(intOf i).toNat)
  case atStart=>exact⟨[],0,rfl,Nat.zero_le _,rfl,Zeg.nil _ _,Below.refl _ _,rfl⟩
  case round=>
   obtain⟨l,k,rfl,hk,hlk,hG,hBr,HR⟩:=hrel
   have hsr:=hBr.size
   by_cases hlt:k<ps.length
   ·have ck:wr.cell? ⟨w.heap.size,k,none⟩=some (.string ps[k]):=(hBr.cell (p:=⟨w.heap.size,k,none⟩) (by show w.heap.size<w1.heap.size;rw[HS.out];omega)).trans (HC.out k hlt)
    have hpk:ps[k].size<=s.size:=HZ.out _ (List.getElem_mem hlt)
    have cK:=Zsp ps[k] wr (hM1.out.below hBr) (by omega)
    cases hch:Zfr ps[k].data.toList with
    | none=>
     rw[hch] at cK
     have HE:Hid (Zb8 Zfr most s.data.toList sep.data.toList=none):=by
      show _ = _
      rw[HL.out,if_pos hm,Zyg HR.out hlt hch]
     clear hch
     replace cK:Calls Tryz.prog 132 #[.string ps[k]] wr fun e w'=>Zce e/\Below wr.heap.size wr w':=cK.mono fun e w' h=>⟨h.2,h.1⟩
     go_wp2_with (go_at_fn 132;refine cK.mono ?_;rintro e w2 ⟨rfl,hB2⟩)
     exact⟨rfl,Zzh HE.out rfl (bt hB0 (bt hBr hB2))⟩
    | some c=>
     rw[hch] at cK
     have HC2:=hid hch
     clear hch
     replace cK:Calls Tryz.prog 132 #[.string ps[k]] wr fun e w'=>∃ u,e=.returned u/\w'.ownsRow wr.heap.size 156 3 u c.length (Zak c)/\Below wr.heap.size wr w':=cK.mono fun e w' h=>by
      obtain⟨h1,u,h2,h3⟩:=h
      exact⟨u,h2,h3,h1⟩
     go_wp2_with fail
     refine cK.mono ?_
     rintro e w2 ⟨u,rfl,hu,hB2⟩
     clear cK
     have hs2:=hB2.size
     obtain⟨vs,qV,hrows⟩:=hG.below hB2
     have HROWS:=hid hrows
     have hu':=Zf3 hu hsr
     clear hG hu hrows
     rw[hlk] at qV
     obtain⟨au,cu,eu⟩:=Zac hu'
     subst eu
     have HU:Hid (w2.ownsRow w1.heap.size 156 3 (.slice au c.length cu) c.length (Zak c)):=hu'
     clear hu'
     go_wp2_with (at_builtin;refine wpList_append_own _ rfl _ _ 104 rfl w1.heap.size 153 i0 (.slice none 0 0) 1 24 Tryz.underlying104 hi0 hz0 hz1 hz2 rfl (by decide) _ _ _ rfl (qV.alloc _) ⟨w2.heap.size,0,none⟩ 1 1 [.slice au c.length cu] rfl rfl ?c1 ?c2 ?c3 ?c4 ?c5 ?_)
     case c1=>exact Zca _ _ _
     case c2=>intro x hx;simp at hx;subst hx;rfl
     case c3=>unfold maxLen;omega
     case c4=>omega
     case c5=>simp;omega
     intro v' w3 hown' hgrow _
     have R1:Zeg w3 w1.heap.size v' (l++[c]):=Zeg.push (by rw[hlk];exact qV) HROWS.out HU.out (by rw[hlk];exact hown') hgrow
     have R2:Below w1.heap.size w1 w3:=
      ((hBr.trans (hB2.mono hsr)).alloc (by omega) _).grown hgrow (by simp;omega) (fun j hj=>(qV.lt j hj).1)
     clear hown' hgrow qV
     go_wp2
     go_roundw
     case rel=>exact⟨_,k+1,by go_num,by omega,by simp;omega,R1,R2,Zxb HR.out hlt c HC2.out⟩
     case measure=>simp[intOf];omega
   ·have hkk:k=ps.length:=by omega
    have HE:Hid (Zb8 Zfr most s.data.toList sep.data.toList=some l):=by
     have h:=HR.out
     unfold Z50 at h
     rw[hkk,List.take_length] at h
     show _ = _
     rw[HL.out,if_pos hm,h]
    obtain⟨av,cv,hv⟩:=hG.form
    subst hv
    clear hkk
    go_wp2
    go_ret
    exact Z78 l HE.out (hG.base hB0.size) (bt hB0 hBr)
 ·have hm':¬ (ps.length:Int)<=most:=by omega
  have hd:decide ((ps.length:Int)<=most)=false:=by simp;omega
  have HE:Hid (Zb8 Zfr most s.data.toList sep.data.toList=none):=by show _ = _;rw[HL.out,if_neg hm]
  clear cY
  go_enter Tryz.func131,Tryz.ntmps131
  go_wp2_with (first|(go_at_call 85;refine c1.mono ?_;rintro e w' ⟨rfl,rfl⟩)|(go_at_call 83;refine(cN _).mono ?_;rintro e w' ⟨rfl,rfl⟩))
  exact⟨rfl,Zzh HE.out rfl ((Below.refl _ w).alloc ler _)⟩
structure QAt (w:World) (pb B:Nat) (p:M.Pk) (nv bv fv:Value):Prop where
 c0:w.cell? ⟨pb,0,none⟩=some (.string ⟨p.name.toArray⟩)
 c1:w.cell? ⟨pb,1,none⟩=some (.string ⟨p.ver.toArray⟩)
 c2:w.cell? ⟨pb,2,none⟩=some nv
 c3:w.cell? ⟨pb,3,none⟩=some bv
 c4:w.cell? ⟨pb,4,none⟩=some fv
 fz:∀ o,w.frozen? ⟨pb,o,none⟩=false
 lt:pb<B
 le:B<=w.heap.size
 needs:Za9 w (pb+1) B nv p.needs
 bars:Zas w (pb+1) B bv p.bars.length (Zak p.bars)
 files:w.ownsRow B 159 2 fv p.files.length (Zaf p.files)
 nnil:p.needs=[]->nv=.slice none 0 0
 fnil:p.files=[]->fv=.slice none 0 0
def Znn(w:World)(pb:Nat)(p:M.Pk):Prop:=∃ B nv bv fv,QAt w pb B p nv bv fv
theorem QAt.below{w w':World}{pb B:Nat}{p:M.Pk}{nv bv fv:Value}(h:QAt w pb B p nv bv fv)(hb:Below w.heap.size w w'):QAt w' pb B p nv bv fv:=by
 have hpb:pb<w.heap.size:=Nat.lt_of_lt_of_le h.lt h.le
 have k:∀ o,w'.cell? ⟨pb,o,none⟩=w.cell? ⟨pb,o,none⟩:=fun o=>hb.cell (p:=⟨pb,o,none⟩) hpb
 have kk:∀ g o,pb+1<=g->g<B->Zdr w w' g o:=fun g o _ hg=>Zcb hb (Nat.lt_of_lt_of_le hg h.le)
 exact⟨(k 0).trans h.c0,(k 1).trans h.c1,(k 2).trans h.c2,(k 3).trans h.c3,(k 4).trans h.c4,fun o=>(hb.frozen (p:=⟨pb,o,none⟩) hpb).trans (h.fz o),h.lt,Nat.le_trans h.le hb.size,h.needs.keep kk,h.bars.keep kk,own_below h.files hb,h.nnil,h.fnil⟩
theorem QAt.title{w:World}{pb B:Nat}{p:M.Pk}{nv bv fv:Value}(h:QAt w pb B p nv bv fv)(X Y:ByteArray):
 QAt ((w.setCell ⟨pb,0,none⟩ (.string X)).setCell ⟨pb,1,none⟩ (.string Y)) pb B { p with name:=X.data.toList,ver:=Y.data.toList } nv bv fv:=by
 have kk:∀ g o,pb+1<=g->g<B->Zdr w ((w.setCell ⟨pb,0,none⟩ (.string X)).setCell ⟨pb,1,none⟩ (.string Y)) g o:=fun g o hg _=>by
  exact((Zk5 (by omega)).trans (Zk5 (by omega)))
 have k1:(w.setCell ⟨pb,0,none⟩ (.string X)).cell? ⟨pb,1,none⟩=some (.string ⟨p.ver.toArray⟩):=(Zag _ _ _ _ _ (by decide)).trans h.c1
 refine⟨?_,?_,?_,?_,?_,fun o=>?_,h.lt,?_,h.needs.keep kk,h.bars.keep kk,?_,h.nnil,h.fnil⟩
 ·rw[Zag _ _ _ _ _ (by decide),World.cell?_setCell_same _ _ _ h.c0]
 ·rw[World.cell?_setCell_same _ _ _ k1]
 ·rw[Zag _ _ _ _ _ (by decide),Zag _ _ _ _ _ (by decide)];exact h.c2
 ·rw[Zag _ _ _ _ _ (by decide),Zag _ _ _ _ _ (by decide)];exact h.c3
 ·rw[Zag _ _ _ _ _ (by decide),Zag _ _ _ _ _ (by decide)];exact h.c4
 ·rw[World.frozen?_setCell,World.frozen?_setCell];exact h.fz o
 ·rw[size_set,size_set];exact h.le
 ·exact ownsRow_setCell_below (ownsRow_setCell_below h.files h.lt _) h.lt _
theorem QAt.bars'{w w1:World}{pb B:Nat}{p:M.Pk}{nv bv fv v:Value}{l:List M.Ch}(h:QAt w pb B p nv bv fv)(hb:Below w.heap.size w w1)(hf:p.files=[])
 (ho:w1.ownsRow w.heap.size 156 3 v l.length (Zak l)):QAt (w1.setCell ⟨pb,3,none⟩ v) pb w1.heap.size { p with bars:=l } nv v fv:=by
 have h1:=h.below hb
 have hpb:pb<w.heap.size:=Nat.lt_of_lt_of_le h.lt h.le
 have hz:=hb.size
 have kk:∀ g o,pb+1<=g->g<B->Zdr w1 (w1.setCell ⟨pb,3,none⟩ v) g o:=fun g o hg _=>Zk5 (by omega)
 have kk':∀ g o,w.heap.size<=g->g<w1.heap.size->Zdr w1 (w1.setCell ⟨pb,3,none⟩ v) g o:=fun g o hg _=>Zk5 (by omega)
 have e:=h.fnil hf
 subst e
 refine⟨?_,?_,?_,?_,?_,fun o=>?_,by omega,by rw[size_set];exact Nat.le_refl _,(h1.needs.keep kk).wide ler h1.le,((Zas.own ho).keep kk').wide (by omega) ler,?_,h.nnil,fun _=>rfl⟩
 ·rw[Zag _ _ _ _ _ (by decide)];exact h1.c0
 ·rw[Zag _ _ _ _ _ (by decide)];exact h1.c1
 ·rw[Zag _ _ _ _ _ (by decide)];exact h1.c2
 ·rw[World.cell?_setCell_same _ _ _ h1.c3]
 ·rw[Zag _ _ _ _ _ (by decide)];exact h1.c4
 ·rw[World.frozen?_setCell];exact h1.fz o
 ·show World.ownsRow _ _ _ _ _ p.files.length (Zaf p.files)
  rw[hf];exact World.ownsRow_nil _ _ _ _
theorem QAt.needs'{w w1:World}{pb B:Nat}{p:M.Pk}{nv bv fv v:Value}{l:List (List M.Ch)}(h:QAt w pb B p nv bv fv)(hb:Below w.heap.size w w1)(hf:p.files=[])(hne:l≠[])
 (hG:Zeg w1 w.heap.size v l):QAt (w1.setCell ⟨pb,2,none⟩ v) pb w1.heap.size { p with needs:=l } v bv fv:=by
 have h1:=h.below hb
 have hpb:pb<w.heap.size:=Nat.lt_of_lt_of_le h.lt h.le
 have hz:=hb.size
 have kk:∀ g o,pb+1<=g->g<B->Zdr w1 (w1.setCell ⟨pb,2,none⟩ v) g o:=fun g o hg _=>Zk5 (by omega)
 have kk':∀ g o,w.heap.size<=g->g<w1.heap.size->Zdr w1 (w1.setCell ⟨pb,2,none⟩ v) g o:=fun g o hg _=>Zk5 (by omega)
 have e:=h.fnil hf
 subst e
 refine⟨?_,?_,?_,?_,?_,fun o=>?_,by omega,by rw[size_set];exact Nat.le_refl _,((hG.needs ler).keep kk').wide (by omega) ler,(h1.bars.keep kk).wide ler h1.le,?_,fun e=>absurd e hne,fun _=>rfl⟩
 ·rw[Zag _ _ _ _ _ (by decide)];exact h1.c0
 ·rw[Zag _ _ _ _ _ (by decide)];exact h1.c1
 ·rw[World.cell?_setCell_same _ _ _ h1.c2]
 ·rw[Zag _ _ _ _ _ (by decide)];exact h1.c3
 ·rw[Zag _ _ _ _ _ (by decide)];exact h1.c4
 ·rw[World.frozen?_setCell];exact h1.fz o
 ·show World.ownsRow _ _ _ _ _ p.files.length (Zaf p.files)
  rw[hf];exact World.ownsRow_nil _ _ _ _
theorem QAt.grown{w wx w2:World}{pb B:Nat}{p:M.Pk}{nv bv fv:Value}(h:QAt w pb B p nv bv fv)(hb:Below w.heap.size w wx)(hg:wx.grownBy w2 fv.ownBlock):
 (∀ g o,g<B->Zdr w w2 g o/\w2.frozen? ⟨g,o,none⟩=w.frozen? ⟨g,o,none⟩)/\w.heap.size<=w2.heap.size:=by
 have hz:=hb.size
 have hz2:=hg.size
 refine⟨fun g o hgB=>?_,by omega⟩
 have hl:=h.le
 have k:=Zjl hg g (by omega) (fun e=>by have:=(h.files.lt g e.symm).1;omega) o
 exact⟨(Zlf (hg.block g (by omega) (fun e=>by have:=(h.files.lt g e.symm).1;omega))).trans (Zcb hb (by show g < _;omega)),k.2.trans (hb.frozen (p:=⟨g,o,none⟩) (by show g < _;omega))⟩
theorem QAt.files'{w wx w2:World}{pb B:Nat}{p:M.Pk}{nv bv fv v':Value}{X Y:ByteArray}(h:QAt w pb B p nv bv fv)(hb:Below w.heap.size w wx)(hg:wx.grownBy w2 fv.ownBlock)
 (ho:w2.ownsRow B 159 2 v' (p.files.length+1) (Zaf p.files++[.string X,.string Y])):
 QAt (w2.setCell ⟨pb,4,none⟩ v') pb B { p with files:=p.files++[⟨X.data.toList,Y.data.toList⟩] } nv bv v':=by
 obtain⟨hk,hz⟩:=h.grown hb hg
 have hlt:=h.lt
 have kk:∀ g o,pb+1<=g->g<B->Zdr w (w2.setCell ⟨pb,4,none⟩ v') g o:=fun g o hg' hgB=>(Zk5 (by omega)).trans (hk g o hgB).1
 refine⟨?_,?_,?_,?_,?_,fun o=>?_,hlt,by rw[size_set];exact Nat.le_trans h.le hz,h.needs.keep kk,h.bars.keep kk,?_,h.nnil,fun e=>by simp at e⟩
 ·rw[Zag _ _ _ _ _ (by decide),(hk pb 0 hlt).1.1];exact h.c0
 ·rw[Zag _ _ _ _ _ (by decide),(hk pb 1 hlt).1.1];exact h.c1
 ·rw[Zag _ _ _ _ _ (by decide),(hk pb 2 hlt).1.1];exact h.c2
 ·rw[Zag _ _ _ _ _ (by decide),(hk pb 3 hlt).1.1];exact h.c3
 ·rw[World.cell?_setCell_same _ _ _ ((hk pb 4 hlt).1.1.trans h.c4)]
 ·rw[World.frozen?_setCell,(hk pb o hlt).2];exact h.fz o
 ·have e:Zaf (p.files++[M.Fl.mk X.data.toList Y.data.toList])=Zaf p.files++[.string X,.string Y]:=Zf4 _ _
  show World.ownsRow _ _ _ _ _ (p.files++[M.Fl.mk X.data.toList Y.data.toList]).length (Zaf (p.files++[M.Fl.mk X.data.toList Y.data.toList]))
  rw[e]
  exact ownsRow_setCell_below (by simpa using ho) hlt _
end Go.Proofs.YtgnfknjopafngaaGreatDoor
