import Derived.Test.YtgnfknjopafngabGreatDoorKnk
set_option maxRecDepth 100000
set_option maxHeartbeats 2000000
namespace Go.Proofs.YtgnfknjopafngabGreatDoor
open Go.RowKit
def foldU(b:List UInt8)(k:Nat):List (List UInt8):=(List.range k).flatMap fun i=>if Lib.hasPrefix (b.drop i) [47]=true then [b.take i] else []
theorem foldU_all(b:List UInt8):foldersS b=foldU b b.length:=rfl
theorem foldU_yes{b:List UInt8}{k:Nat}(h:Lib.hasPrefix (b.drop k) [47]=true):foldU b (k+1)=foldU b k++[b.take k]:=by
 unfold foldU;rw[List.range_succ,List.flatMap_append];simp[h]
theorem foldU_no{b:List UInt8}{k:Nat}(h:Lib.hasPrefix (b.drop k) [47]=false):foldU b (k+1)=foldU b k:=by
 unfold foldU;rw[List.range_succ,List.flatMap_append];simp[h]
theorem foldU_len(b:List UInt8):∀ k,(foldU b k).length<=k
 | 0=>by simp[foldU]
 | k+1=>by
  have:=foldU_len b k
  cases h:Lib.hasPrefix (b.drop k) [47] with
  | true=>rw[foldU_yes h];simp;omega
  | false=>rw[foldU_no h];omega
theorem folders_any(s:ByteArray)(w:World)(hs:s.size<=100000):
 Calls Tryz.prog 219 #[.string s] w fun e w'=>∃ v,e=.returned v/\w'.ownsRow w.heap.size 9 1 v (foldersS s.data.toList).length ((foldersS s.data.toList).map strV)/\Below w.heap.size w w':=by
 obtain⟨i0,hi0,hz0,hz1,hz2⟩:=info_parts infoStr
 go_enter Tryz.func219,Tryz.ntmps219
 go_wp2
 go_loopw [3,4,7] (fun v _ j wr=>∃ (l:List (List UInt8)) (k:Nat),j=.int .i64 k/\k<=s.size/\l.length<=k/\wr.ownsRow w.heap.size 9 1 v l.length (l.map strV)/\Below w.heap.size w wr/\Hid (l=foldU s.data.toList k)) (fun _ _ j _=>s.size-(intOf j).toNat)
 case atStart=>exact⟨[],0,rfl,Nat.zero_le _,Nat.le_refl _,World.ownsRow_nil _ _ _ _,Below.refl _ _,rfl⟩
 case round=>
  obtain⟨l,k,rfl,hk,hlk,hown,hBr,HR⟩:=hrel
  have hsr:=hBr.size
  by_cases hlt:k<s.size
  ·have cH:=Tryz.strings_HasPrefix (s.extract k s.size) ⟨#[47]⟩ wr
   have e1:(s.extract k s.size).data.toList=s.data.toList.drop k:=ext_from s k
   have e2:(s.extract 0 k).data.toList=s.data.toList.take k:=ext_upto s k
   rw[e1] at cH
   cases hp:Lib.hasPrefix (s.data.toList.drop k) [47] with
   | false=>
    have cH2:Calls Tryz.prog 259 #[.string (s.extract k s.size),.string ⟨#[47]⟩] wr fun e w'=>e=.returned (.bool false)/\w'=wr:=by rw[<-hp];exact cH
    have HN:Hid (l=foldU s.data.toList (k+1)):=by show _ = _;rw[foldU_no hp];exact HR.out
    clear cH hp e1 e2 HR
    go_wp2_with (go_at_call 259;refine cH2.mono ?_;rintro e w' ⟨rfl,rfl⟩)
    go_roundw
    case rel=>exact⟨l,k+1,by go_num,by omega,by omega,hown,hBr,HN⟩
    case measure=>simp[intOf];omega
   | true=>
    have cH2:Calls Tryz.prog 259 #[.string (s.extract k s.size),.string ⟨#[47]⟩] wr fun e w'=>e=.returned (.bool true)/\wr=w':=by rw[<-hp];exact cH.mono fun e w' h=>⟨h.1,h.2.symm⟩
    have HN:Hid (l++[(s.extract 0 k).data.toList]=foldU s.data.toList (k+1)):=by show _ = _;rw[foldU_yes hp,e2,HR.out]
    clear cH hp e1 e2 HR
    go_wp2_with (first|(go_at_call 259;refine cH2.mono ?_;rintro e w' ⟨rfl,rfl⟩)|(at_builtin;refine wpList_append_own _ rfl _ _ 41 rfl w.heap.size 9 i0 (.string ⟨#[]⟩) 1 16 Tryz.underlying41 hi0 hz0 hz1 hz2 rfl (by decide) _ _ _ rfl (hown.alloc _) ⟨wr.heap.size,0,none⟩ 1 1 [.string (s.extract 0 k)] rfl rfl ?c1 ?c2 ?c3 ?c4 ?c5 ?_))
    case c1=>exact one_new _ _ _
    case c2=>intro u hu;simp at hu;subst hu;rfl
    case c3=>unfold maxLen;omega
    case c4=>omega
    case c5=>simp;omega
    intro v' w3 hown' hgrow _
    have R1:w3.ownsRow w.heap.size 9 1 v' (l++[(s.extract 0 k).data.toList]).length ((l++[(s.extract 0 k).data.toList]).map strV):=by
     rw[List.map_append,List.length_append];exact hown'
    have R2:Below w.heap.size w w3:=
     (hBr.alloc (by omega) _).grown hgrow (by simp;omega) (fun j hj=>(hown.lt j hj).1)
    clear hown' hgrow hown
    go_wp2
    go_roundw
    case rel=>exact⟨_,k+1,by go_num,by omega,by simp;omega,R1,R2,HN⟩
    case measure=>simp[intOf];omega
  ·have hkk:k=s.size:=by omega
   have HE:Hid (l=foldersS s.data.toList):=by show _ = _;rw[foldU_all,len_data,<-hkk];exact HR.out
   obtain⟨av,cv,hv⟩:=own_form hown
   subst hv
   clear hkk
   go_wp2
   go_ret
   exact⟨_,rfl,by rw[<-HE.out];exact hown,hBr⟩
theorem contains_lib(l:List (List UInt8))(x:ByteArray)(v:Value)(B:Nat)(w:World)(h:w.ownsRow B 9 1 v l.length (l.map strV))(hl:l.length<=1000000):
 Calls Tryz.prog 218 #[v,.string x] w fun e w'=>e=.returned (.bool (l.contains x.data.toList))/\w'=w:=by
 rcases RowIn.own h with ⟨rfl,h0,_⟩|⟨g,cap,rfl,h1,h2,h3,h4⟩
 ·obtain rfl:=List.length_eq_zero_iff.mp h0
  exact Tryz.slices_Contains_string_empty _ _ x w
 ·have hc:=Tryz.slices_Contains_string g 0 l.length cap (l.map fun q=>⟨q.toArray⟩) x w (by simp) (by omega) (fun j hj=>by
   rw[List.length_map] at hj
   rw[Nat.zero_add]
   have:=h4 j (strV l[j]) (by simp[hj])
   rw[this]
   simp[strV,hj])
  refine hc.mono fun e w' h=>⟨?_,h.2⟩
  rw[h.1]
  congr 2
  rw[Bool.eq_iff_iff,Lib.containsS_iff,List.contains_iff_mem,List.take_of_length_le (by simp)]
  constructor
  ·intro hm
   obtain⟨q,hq,e⟩:=List.mem_map.1 hm
   subst e
   exact hq
  ·intro hm
   exact List.mem_map.2 ⟨_,hm,mk_data x⟩
def clashB(a b:ByteArray):Bool:=clashS a.data.toList b.data.toList
theorem clash_any(a b:ByteArray)(w:World)(ha:a.size<=100000)(hb:b.size<=100000):
 Calls Tryz.prog 166 #[.string a,.string b] w fun e w'=>e=.returned (.bool (clashB a b))/\Below w.heap.size w w':=by
 have HC:Hid (clashB a b=(a.toList == b.toList || (foldersS b.data.toList).contains a.data.toList || (foldersS a.data.toList).contains b.data.toList)):=by
  show _ = _
  unfold clashB clashS
  rw[Lib.toList_data,Lib.toList_data]
 have lB:(foldersS b.data.toList).length<=1000000:=by have:=foldU_len b.data.toList b.data.toList.length;have:=len_data b;rw[foldU_all];omega
 have lA:(foldersS a.data.toList).length<=1000000:=by have:=foldU_len a.data.toList a.data.toList.length;have:=len_data a;rw[foldU_all];omega
 have cB:=folders_any b w hb
 by_cases h0:(a.toList == b.toList)=true
 ·have HE:Hid (clashB a b=true):=by show _ = _;rw[HC.out,h0];rfl
  clear cB
  go_enter Tryz.func166,Tryz.ntmps166
  go_wp2
  go_ret
  exact⟨ret_bool HE.out.symm,Below.refl _ _⟩
 replace h0:(a.toList == b.toList)=false:=by simpa using h0
 cases h1:(foldersS b.data.toList).contains a.data.toList with
 | true=>
  have HE:Hid (clashB a b=true):=by show _ = _;rw[HC.out,h0,h1];rfl
  go_enter Tryz.func166,Tryz.ntmps166
  go_wp2_with fail
  refine cB.mono ?_
  rintro e w1 ⟨v,rfl,hv,hB1⟩
  have cC:=contains_lib _ a v _ w1 hv lB
  rw[h1] at cC
  go_wp2_with (go_at_call 218;refine cC.mono ?_;rintro e w' ⟨rfl,rfl⟩)
  go_ret
  exact⟨ret_bool HE.out.symm,hB1⟩
 | false=>
  have HE:Hid (clashB a b=(foldersS a.data.toList).contains b.data.toList):=by show _ = _;rw[HC.out,h0,h1];rfl
  go_enter Tryz.func166,Tryz.ntmps166
  go_wp2_with fail
  refine cB.mono ?_
  rintro e w1 ⟨v,rfl,hv,hB1⟩
  have cC:=contains_lib _ a v _ w1 hv lB
  rw[h1] at cC
  replace cC:Calls Tryz.prog 218 #[v,.string a] w1 fun e w'=>e=.returned (.bool false)/\w1=w':=cC.mono fun e w' h=>⟨h.1,h.2.symm⟩
  have cA:=folders_any a w1 ha
  go_wp2_with (go_at_call 218;refine cC.mono ?_;rintro e w' ⟨rfl,rfl⟩)
  refine cA.mono ?_
  rintro e w2 ⟨v2,rfl,hv2,hB2⟩
  have cD:=contains_lib _ b v2 _ w2 hv2 lA
  generalize (foldersS a.data.toList).contains b.data.toList=r at HE cD
  go_wp2_with (go_at_call 218;refine cD.mono ?_;rintro e w' ⟨rfl,rfl⟩)
  go_ret
  exact⟨ret_bool HE.out.symm,bt hB1 hB2⟩
abbrev SFl:Type:={ f:M.Fl // f.path.length<=100000 }
def sflCells(x:SFl):List Value:=[strV x.1.path,strV x.1.content]
theorem addClosure_any(X:ByteArray)(fb:Nat)(g:SFl)(W:World)(hX:X.size<=100000)(hf:W.cell? ⟨fb,0,none⟩=some (.string X)):
 Calls Tryz.prog 165 #[.agg #[strV g.1.path,strV g.1.content],.pointer (some ⟨fb,0,none⟩)] W fun e w'=>e=.returned (.bool (clashS X.data.toList g.1.path))/\Below W.heap.size W w':=by
 obtain⟨⟨P,C⟩,hg⟩:=g
 have cC:=fun wx=>clash_any X ⟨P.toArray⟩ wx hX (by have:=len_data ⟨P.toArray⟩;simp at this hg ⊢;omega)
 have e0:clashB X ⟨P.toArray⟩=clashS X.data.toList P:=rfl
 rw[e0] at cC
 unfold strV
 generalize clashS X.data.toList P=r at cC ⊢
 have hlt:fb<W.heap.size:=by
  rcases Nat.lt_or_ge fb W.heap.size with h|h
  ·exact h
  ·simp[World.cell?,Array.getElem?_eq_none h] at hf
 have hf2:∀ o,(W.alloc o).cell? ⟨fb,0,none⟩=some (.string X):=fun o=>(World.cell?_alloc_past _ _ _ hlt).trans hf
 go_enter Tryz.func165,Tryz.ntmps165
 go_wp2_with fail
 refine(cC _).mono ?_
 rintro e w' ⟨rfl,hB⟩
 go_wp2
 go_ret
 exact⟨rfl,bt ((Below.refl _ W).alloc ler _) hB⟩
theorem indexFunc_nil(fv:Value)(w:World):
 Calls Tryz.prog 217 #[.slice none 0 0,fv] w fun e w'=>e=.returned (.int .i64 (-1))/\w'=w:=by
 go_enter Tryz.func217,Tryz.ntmps217
 go_wp2
 refine wp_loop_rounds 1 ?_
 rw[rounds_succ]
 go_wp2
 go_ret
 exact⟨rfl,rfl⟩
theorem containsFunc_nil(fv:Value)(w:World):
 Calls Tryz.prog 164 #[.slice none 0 0,fv] w fun e w'=>e=.returned (.bool false)/\w'=w:=by
 have cI:=indexFunc_nil fv
 go_enter Tryz.func164,Tryz.ntmps164
 go_wp2_with (go_at_call 217;refine(cI _).mono ?_;rintro e w' ⟨rfl,rfl⟩)
 go_ret
 exact⟨rfl,rfl⟩
theorem fl_cell2'{l:List M.Fl}{k:Nat}(hk:k<l.length):(flsCells l)[2*k+1]? = some (strV l[k].content):=by
 induction l generalizing k with
 | nil=>simp at hk
 | cons f l ih=>
  cases k with
  | zero=>simp[flsCells,flCells]
  | succ k=>
   have:=ih (k:=k) (by simpa using hk)
   simp only[flsCells,List.flatMap_cons,flCells] at this ⊢
   rw[show 2*(k+1)+1=2*k+1+1+1 by omega]
   simpa using this
theorem sfls{l:List M.Fl}(h:∀ f∈l,f.path.length<=100000):∃ zs:List SFl,l=zs.map Subtype.val:=by
 refine⟨l.attach.map fun x=>⟨x.1,h x.1 x.2⟩,?_⟩
 simp
theorem containsFunc_any(X:ByteArray)(fb B:Nat)(l:List M.Fl)(v:Value)(w:World)(hX:X.size<=100000)(hf:w.cell? ⟨fb,0,none⟩=some (.string X))(hl:l.length<=1000000)
 (h:w.ownsRow B 144 2 v l.length (flsCells l)) (hs:∀ f∈l,f.path.length<=100000):
 Calls Tryz.prog 164 #[v,.func (.func 165) #[] #[.pointer (some ⟨fb,0,none⟩)]] w fun e w'=>e=.returned (.bool (l.any fun g=>clashS X.data.toList g.path))/\Below w.heap.size w w':=by
 rcases RowIn.own h with ⟨rfl,h0,_⟩|⟨g,cap,rfl,h1,h2,h3,h4⟩
 ·obtain rfl:=List.length_eq_zero_iff.mp h0
  exact(containsFunc_nil _ w).mono fun e w' h=>⟨h.1,by rw[h.2];exact Below.refl _ _⟩
 ·obtain⟨zs,rfl⟩:=sfls hs
  haveI:Inhabited SFl:=⟨⟨⟨[],[]⟩,Nat.zero_le _⟩⟩
  have hc:=AnyQ.slices_ContainsFunc Tryz.layContains 2 Tryz.isAgg144 Tryz.sizeOf144 sflCells (fun _=>rfl) (fun x:SFl=>clashS X.data.toList x.1.path) 165 #[.pointer (some ⟨fb,0,none⟩)]
   (enters_of Tryz.func165 (by kernel_rfl) rfl) g 0 (zs.map Subtype.val).length cap zs w
   (fun W x hb=>(addClosure_any X fb x W hX ((hb.cell (p:=⟨fb,0,none⟩) (World.block_lt_of_cell? _ _ hf)).trans hf)).mono fun e w' h=>⟨h.1,hb.trans (h.2.mono hb.size)⟩)
   (by simp) (by omega) h3.1 (fun j hj i u hu=>by
     rw[Nat.zero_add]
     have e:zs[j]! = zs[j]:=getElem!_pos zs j hj
     rw[e] at hu
     refine h4 (j*2+i) u ?_
     unfold sflCells at hu
     have hj':j<(zs.map Subtype.val).length:=by simpa using hj
     match i,hu with
     | 0,hu=>
      have:=fl_cell hj'
      rw[Nat.add_zero,Nat.mul_comm,this]
      simpa using hu
     | 1,hu=>
      have:=fl_cell2' hj'
      rw[Nat.mul_comm,this]
      simpa using hu)
  refine hc.mono fun e w' h=>⟨?_,h.2⟩
  rw[h.1]
  congr 2
  rw[List.take_of_length_le (by simp),List.any_map]
  rfl
theorem infoFlC:(Tryz.prog.info? 144).map (fun i=>(i.zero,i.size,i.bytes))=some (some (.agg #[.string ⟨#[]⟩,.string ⟨#[]⟩]),2,32):=by kernel_rfl
def AddPost(o:Option (List M.Fl))(B:Nat)(fv:Value)(w:World)(e:Ending)(w':World):Prop:=match o with
 | none=>Thrown e/\Below w.heap.size w w'
 | some l=>∃ v' wx,e=.returned v'/\w'.ownsRow B 144 2 v' l.length (flsCells l)/\Below w.heap.size w wx/\wx.grownBy w' fv.ownBlock
theorem add_none{o:Option (List M.Fl)}{B:Nat}{fv:Value}{w:World}{e:Ending}{w':World}(ho:o=none)(h:Thrown e)(hb:Below w.heap.size w w'):AddPost o B fv w e w':=by
 subst ho;exact⟨h,hb⟩
theorem addFile_any(l:List M.Fl)(X Y:ByteArray)(B:Nat)(fv:Value)(w:World)(hX:X.size<=100000)(hl:l.length<=1000000)(hB:B<=w.heap.size)
 (h:w.ownsRow B 144 2 fv l.length (flsCells l)) (hs:∀ f∈l,f.path.length<=100000):
 Calls Tryz.prog 120 #[fv,.agg #[.string X,.string Y]] w (AddPost (if l.length<4/\(l.any fun g=>clashS X.data.toList g.path)=false then some (l++[⟨X.data.toList,Y.data.toList⟩]) else none) B fv w):=by
 obtain⟨i0,hi0,hz0,hz1,hz2⟩:=info_parts infoFlC
 obtain⟨O,HO⟩:∃ O,Hid (O=if l.length<4/\(l.any fun g=>clashS X.data.toList g.path)=false then some (l++[(⟨X.data.toList,Y.data.toList⟩:M.Fl)]) else none):=⟨_,rfl⟩
 rw[<-HO.out]
 have cY:=must_ok
 have cN:=must_no
 have hmf:∀ (fn:Fn) (first cap:Array Value) (w:World),(Instr.makeFunc fn first cap).run Tryz.prog w=.ok (.func fn first cap) w:=fun _ _ _ _=>rfl
 obtain⟨hB1,hz,hcl,hfz⟩:=newB w [.string X,.string Y] 144 0
 replace hB1:Below w.heap.size w (w.alloc (.cells #[.string X,.string Y] 144)):=hB1
 replace hz:(w.alloc (.cells #[.string X,.string Y] 144)).heap.size=w.heap.size+1:=hz
 have q0:(w.alloc (.cells #[.string X,.string Y] 144)).cell? ⟨w.heap.size,0,none⟩=some (.string X):=hcl 0 _ rfl
 have q1:(w.alloc (.cells #[.string X,.string Y] 144)).cell? ⟨w.heap.size,1,none⟩=some (.string Y):=hcl 1 _ rfl
 have hown1:=own_below h hB1
 have cF:=containsFunc_any X w.heap.size B l fv _ hX q0 hl hown1 hs
 obtain⟨af,cf,ef⟩:=own_form h
 subst ef
 by_cases h4:l.length<4
 ·have h4':(l.length:Int)<4:=by omega
  cases hcl2:(l.any fun g=>clashS X.data.toList g.path) with
  | true=>
   rw[hcl2] at cF
   have HE:Hid (O=none):=HO.out.trans (if_neg (by rw[hcl2];simp))
   clear hcl hfz hown1 hs h q0 q1 hz hcl2
   go_enter Tryz.func120,Tryz.ntmps120
   go_wp2_with (first|(go_at_call 62;refine(cY _).mono ?_;rintro e w' ⟨rfl,rfl⟩)|(go_at_call 164;refine cF.mono ?_;rintro e w2 ⟨rfl,hB2⟩)|(go_at_call 62;refine(cN _).mono ?_;rintro e w' ⟨rfl,rfl⟩))
   exact⟨rfl,add_none HE.out rfl (bt hB1 hB2)⟩
  | false=>
   rw[hcl2] at cF
   have HE:Hid (O=some (l++[(⟨X.data.toList,Y.data.toList⟩:M.Fl)])):=HO.out.trans (if_pos ⟨h4,hcl2⟩)
   replace cY:∀ wx,Calls Tryz.prog 62 #[.bool true] wx fun e w'=>e=.returned (.tuple #[])/\wx=w':=fun wx=>(cY wx).mono fun e w' h=>⟨h.1,h.2.symm⟩
   have HOW:=hid hown1
   have HQ0:=hid q0
   have HQ1:=hid q1
   have HZ:=hid hz
   clear hcl hfz hown1 hs h q0 q1 hz hcl2 cN
   go_enter Tryz.func120,Tryz.ntmps120
   go_wp2_with ((go_at_call 62;refine(cY _).mono ?_;rintro e w' ⟨rfl,rfl⟩))
   refine cF.mono ?_
   rintro e w2 ⟨rfl,hB2⟩
   have r0:=(hB2.cell (p:=⟨w.heap.size,0,none⟩) (by show w.heap.size < _;rw[HZ.out];omega)).trans HQ0.out
   have r1:=(hB2.cell (p:=⟨w.heap.size,1,none⟩) (by show w.heap.size < _;rw[HZ.out];omega)).trans HQ1.out
   have hown2:=own_below HOW.out hB2
   have hs2:w.heap.size<w2.heap.size:=by have:=hB2.size;have:=HZ.out;omega
   have HB2:Hid (Below w.heap.size w w2):=bt hB1 hB2
   clear hB2 cF
   go_wp2_with (first|(go_at_call 62;refine(cY _).mono ?_;rintro e w' ⟨rfl,rfl⟩)|(at_builtin;refine wpList_append_own _ rfl _ _ 85 rfl B 144 i0 (.agg #[.string ⟨#[]⟩,.string ⟨#[]⟩]) 2 32 Tryz.underlying85 hi0 hz0 hz1 hz2 rfl (by decide) _ _ _ rfl (hown2.alloc _) ⟨w2.heap.size,0,none⟩ 1 1 [.string X,.string Y] rfl rfl ?c1 ?c2 ?c3 ?c4 ?c5 ?_))
   case c1=>exact new_cells _ [.string X,.string Y] _
   case c2=>intro u hu;simp at hu;rcases hu with rfl|rfl <;> rfl
   case c3=>unfold maxLen;omega
   case c4=>omega
   case c5=>simp;omega
   intro v' w3 hown' hgrow _
   obtain⟨av,cv,ev⟩:=own_form hown'
   subst ev
   go_wp2
   go_ret
   refine(show AddPost O B (.slice af l.length cf) w _ _ from ?_)
   rw[HE.out]
   refine⟨_,w2.alloc (.cells #[.string X,.string Y] 144),rfl,?_,HB2.out.alloc (by omega) _,hgrow⟩
   rw[flsCells_snoc,List.length_append]
   exact hown'
 ·have h4':¬ (l.length:Int)<4:=by omega
  have hd:decide ((l.length:Int)<4)=false:=by simp;omega
  have HE:Hid (O=none):=HO.out.trans (if_neg (fun h=>h4 h.1))
  clear hcl hfz hown1 hs h q0 q1 hz cF cY
  go_enter Tryz.func120,Tryz.ntmps120
  go_wp2_with ((go_at_call 62;refine(cN _).mono ?_;rintro e w' ⟨rfl,rfl⟩))
  exact⟨rfl,add_none HE.out rfl hB1⟩
theorem infoGrC:(Tryz.prog.info? 136).map (fun i=>(i.zero,i.size,i.bytes))=some (some (.slice none 0 0),1,24):=by kernel_rfl
def groupC(s:List UInt8):Option (List M.Ch):=listC choiceC 3 s [32,124,32]
theorem readGroup_any(s:ByteArray)(w:World)(hw:MaxIs w)(hs:s.size<=100000):
 Calls Tryz.prog 115 #[.string s] w (RowPost (groupC s.data.toList) 140 3 chsCells w):=by
 have c1:=listChoice_any s ⟨#[32,124,32]⟩ 3 w hw hs (by decide)
 have HG:groupC s.data.toList=listC choiceC 3 s.data.toList (ByteArray.mk #[32,124,32]).data.toList:=rfl
 rw[<-HG] at c1
 cases ho:groupC s.data.toList with
 | none=>
  rw[ho] at c1
  replace c1:Calls Tryz.prog 117 #[.string s,.string ⟨#[32,124,32]⟩,.int .i64 3,.func (.func 118) #[] #[]] w fun e w'=>Thrown e/\Below w.heap.size w w':=c1.mono fun e w' h=>⟨h.2,h.1⟩
  go_enter Tryz.func115,Tryz.ntmps115
  go_wp2_with fail
  refine c1.mono ?_
  rintro e w' ⟨rfl,hB⟩
  go_wp2
  exact⟨rfl,row_none rfl rfl hB⟩
 | some l=>
  rw[ho] at c1
  replace c1:Calls Tryz.prog 117 #[.string s,.string ⟨#[32,124,32]⟩,.int .i64 3,.func (.func 118) #[] #[]] w fun e w'=>∃ a cap,e=.returned (.slice a l.length cap)/\w'.ownsRow w.heap.size 140 3 (.slice a l.length cap) l.length (chsCells l)/\Below w.heap.size w w':=c1.mono fun e w' h=>by
   obtain⟨h1,u,h2,h3⟩:=h
   obtain⟨a,cap,rfl⟩:=own_form h3
   exact⟨a,cap,h2,h3,h1⟩
  go_enter Tryz.func115,Tryz.ntmps115
  go_wp2_with fail
  refine c1.mono ?_
  rintro e w' ⟨a,cap,rfl,ho,hB⟩
  go_wp2
  go_ret
  exact row_some l rfl ho hB
def GrpsAt(w:World)(B:Nat)(v:Value)(ls:List (List M.Ch)):Prop:=
 ∃ vs:List Value,w.ownsRow B 136 1 v ls.length vs/\∀ (i:Nat) x,ls[i]? = some x->∃ u,vs[i]? = some u/\w.ownsRow B 140 3 u x.length (chsCells x)
theorem GrpsAt.nil(w:World)(B:Nat):GrpsAt w B (.slice none 0 0) []:=⟨[],World.ownsRow_nil _ _ _ _,fun i x h=>by simp at h⟩
theorem GrpsAt.below{w w':World}{B:Nat}{v:Value}{ls:List (List M.Ch)}(h:GrpsAt w B v ls)(hb:Below w.heap.size w w'):GrpsAt w' B v ls:=by
 obtain⟨vs,h1,h2⟩:=h
 exact⟨vs,own_below h1 hb,fun i x hx=>by obtain⟨u,a,b⟩:=h2 i x hx;exact⟨u,a,own_below b hb⟩⟩
theorem GrpsAt.needs{w:World}{B lo:Nat}{v:Value}{ls:List (List M.Ch)}(h:GrpsAt w B v ls)(hl:lo<=B):NeedsIn w lo w.heap.size v ls:=by
 obtain⟨vs,h1,h2⟩:=h
 refine⟨vs,(RowIn.own h1).wide hl ler,by have:=h1.1;omega,fun i x hx=>?_⟩
 obtain⟨u,a,b⟩:=h2 i x hx
 exact⟨u,a,(RowIn.own b).wide hl ler⟩
theorem GrpsAt.push{w w1:World}{B:Nat}{v v' u:Value}{ls:List (List M.Ch)}{l:List M.Ch}{vs:List Value}{o:Obj}(h1:w.ownsRow B 136 1 v ls.length vs)
 (h2:∀ (i:Nat) x,ls[i]? = some x->∃ u,vs[i]? = some u/\w.ownsRow B 140 3 u x.length (chsCells x))
 (hu:w.ownsRow B 140 3 u l.length (chsCells l)) (ho:w1.ownsRow B 136 1 v' (ls.length+1) (vs++[u])) (hg:(w.alloc o).grownBy w1 v.ownBlock):GrpsAt w1 B v' (ls++[l]):=by
 have keep:∀ {x:Value} {n:Nat} {ys:List Value},w.ownsRow B 140 3 x n ys->w1.ownsRow B 140 3 x n ys:=fun hx=>
  (hx.alloc o).kept hg (own_apart h1 hx (by decide))
 have hl:vs.length=ls.length:=by have:=h1.1;omega
 refine⟨vs++[u],by simpa using ho,fun i x hx=>?_⟩
 by_cases hi:i<ls.length
 ·rw[List.getElem?_append_left hi] at hx
  obtain⟨y,a,b⟩:=h2 i x hx
  exact⟨y,by rw[List.getElem?_append_left (by omega)];exact a,keep b⟩
 ·rw[List.getElem?_append_right (by omega)] at hx
  have hi0:i-ls.length=0:=by
   by_cases e:i-ls.length=0
   ·exact e
   ·rw[List.getElem?_eq_none (by simp;omega)] at hx;cases hx
  rw[hi0] at hx
  simp at hx
  subst hx
  exact⟨u,by rw[List.getElem?_append_right (by omega),hl,hi0];rfl,keep hu⟩
theorem GrpsAt.form{w:World}{B:Nat}{v:Value}{ls:List (List M.Ch)}(h:GrpsAt w B v ls):∃ a cap,v=.slice a ls.length cap:=by
 obtain⟨vs,h1,_⟩:=h;exact own_form h1
theorem GrpsAt.base{w:World}{B B':Nat}{v:Value}{ls:List (List M.Ch)}(h:GrpsAt w B v ls)(hB:B'<=B):GrpsAt w B' v ls:=by
 obtain⟨vs,h1,h2⟩:=h
 exact⟨vs,own_base h1 hB,fun i x hx=>by obtain⟨u,a,b⟩:=h2 i x hx;exact⟨u,a,own_base b hB⟩⟩
def GrpPost(o:Option (List (List M.Ch)))(w:World)(e:Ending)(w':World):Prop:=
 Below w.heap.size w w'/\match o with
  | none=>Thrown e
  | some l=>∃ v,e=.returned v/\GrpsAt w' w.heap.size v l
theorem grp_none{o:Option (List (List M.Ch))}{w:World}{e:Ending}{w':World}(ho:o=none)(h:Thrown e)(hb:Below w.heap.size w w'):GrpPost o w e w':=by
 subst ho;exact⟨hb,h⟩
theorem grp_some{o:Option (List (List M.Ch))}{w:World}{v:Value}{w':World}(l:List (List M.Ch))(ho:o=some l)(h:GrpsAt w' w.heap.size v l)(hb:Below w.heap.size w w'):GrpPost o w (.returned v) w':=by
 subst ho;exact⟨hb,v,rfl,h⟩
theorem listGroup_any(s sep:ByteArray)(most:Nat)(w:World)(hw:MaxIs w)(hs:s.size<=100000)(h1:1<=sep.size):
 Calls Tryz.prog 114 #[.string s,.string sep,.int .i64 most,.func (.func 115) #[] #[]] w (GrpPost (listC groupC most s.data.toList sep.data.toList) w):=by
 obtain⟨i0,hi0,hz0,hz1,hz2⟩:=info_parts infoGrC
 obtain⟨ps,hps⟩:=bytes_list (cutB s sep)
 have hpn:ps.length<=s.size+1:=by
  have:=(M.cutS_len s.data.toList sep.data.toList).2
  have e:(cutB s sep).length=ps.length:=by rw[hps];simp
  have:(cutB s sep).length<=s.data.toList.length+1:=this
  simp only[Array.length_toList,ByteArray.size_data] at this
  omega
 have HZ:Hid (∀ p∈ps,p.size<=s.size):=fun p hp=>piece_size hps p hp
 have c1:=split_lib s sep ps w hw (by omega) h1 hps
 have HL:Hid (listC groupC most s.data.toList sep.data.toList=if ps.length<=most then M.allS groupC (ps.map (fun p=>p.data.toList)) else none):=by
  show _ = _
  unfold listC
  rw[show M.cutS s.data.toList sep.data.toList = _ from hps,List.length_map]
 have cY:=must_ok
 have cN:=must_no
 have eR:∀ args w,(callFunc 115 args).run Tryz.prog w=.ok (.enter 115 args) w:=enters_of Tryz.func115 (by kernel_rfl) rfl
 have hw':Hid (MaxIs w):=hw
 clear hps hw
 by_cases hm:ps.length<=most
 ·have hm':(ps.length:Int)<=most:=by omega
  clear cN
  go_enter Tryz.func114,Tryz.ntmps114
  go_wp2_with (first|(go_at_call 64;refine c1.mono ?_;rintro e w' ⟨rfl,rfl⟩)|(go_at_call 62;refine(cY _).mono ?_;rintro e w' ⟨rfl,rfl⟩))
  obtain⟨hB0,hzs,_,_⟩:=newB w (ps.map Value.string) 9 0
  have HC:Hid (∀ j (hj:j<ps.length),(w.alloc (.cells (ps.map Value.string).toArray 9)).cell? ⟨w.heap.size,j,none⟩=some (.string ps[j])):=fun j hj=>strs_at w ps _ j hj
  replace hB0:Below w.heap.size w (w.alloc (.cells (ps.map Value.string).toArray 9)):=hB0
  replace hzs:(w.alloc (.cells (ps.map Value.string).toArray 9)).heap.size=w.heap.size+1:=hzs
  generalize w.alloc (.cells (ps.map Value.string).toArray 9)=w1 at hB0 HC hzs ⊢
  have hM1:Hid (MaxIs w1):=hw'.out.below hB0
  have HS:=hid hzs
  clear hzs
  go_loopw [10,12,23] (fun v m i wr=>∃ (l:List (List M.Ch)) (k:Nat),i=.int .i64 k/\k<=ps.length/\l.length=k/\GrpsAt wr w1.heap.size v l/\Below w1.heap.size w1 wr/\Hid (preF groupC ps k l)) (fun _ _ i _=>ps.length-(intOf i).toNat)
  case atStart=>exact⟨[],0,rfl,Nat.zero_le _,rfl,GrpsAt.nil _ _,Below.refl _ _,rfl⟩
  case round=>
   obtain⟨l,k,rfl,hk,hlk,hG,hBr,HR⟩:=hrel
   have hsr:=hBr.size
   by_cases hlt:k<ps.length
   ·have ck:wr.cell? ⟨w.heap.size,k,none⟩=some (.string ps[k]):=(hBr.cell (p:=⟨w.heap.size,k,none⟩) (by show w.heap.size<w1.heap.size;rw[HS.out];omega)).trans (HC.out k hlt)
    have hpk:ps[k].size<=s.size:=HZ.out _ (List.getElem_mem hlt)
    have cK:=readGroup_any ps[k] wr (hM1.out.below hBr) (by omega)
    cases hch:groupC ps[k].data.toList with
    | none=>
     rw[hch] at cK
     have HE:Hid (listC groupC most s.data.toList sep.data.toList=none):=by
      show _ = _
      rw[HL.out,if_pos hm,preF_no HR.out hlt hch]
     clear hch
     replace cK:Calls Tryz.prog 115 #[.string ps[k]] wr fun e w'=>Thrown e/\Below wr.heap.size wr w':=cK.mono fun e w' h=>⟨h.2,h.1⟩
     go_wp2_with (go_at_fn 115;refine cK.mono ?_;rintro e w2 ⟨rfl,hB2⟩)
     exact⟨rfl,grp_none HE.out rfl (bt hB0 (bt hBr hB2))⟩
    | some c=>
     rw[hch] at cK
     have HC2:=hid hch
     clear hch
     replace cK:Calls Tryz.prog 115 #[.string ps[k]] wr fun e w'=>∃ u,e=.returned u/\w'.ownsRow wr.heap.size 140 3 u c.length (chsCells c)/\Below wr.heap.size wr w':=cK.mono fun e w' h=>by
      obtain⟨h1,u,h2,h3⟩:=h
      exact⟨u,h2,h3,h1⟩
     go_wp2_with fail
     refine cK.mono ?_
     rintro e w2 ⟨u,rfl,hu,hB2⟩
     clear cK
     have hs2:=hB2.size
     obtain⟨vs,hown,hrows⟩:=hG.below hB2
     have HROWS:=hid hrows
     have hu':=own_base hu hsr
     clear hG hu hrows
     rw[hlk] at hown
     obtain⟨au,cu,eu⟩:=own_form hu'
     subst eu
     have HU:Hid (w2.ownsRow w1.heap.size 140 3 (.slice au c.length cu) c.length (chsCells c)):=hu'
     clear hu'
     go_wp2_with (at_builtin;refine wpList_append_own _ rfl _ _ 83 rfl w1.heap.size 136 i0 (.slice none 0 0) 1 24 Tryz.underlying83 hi0 hz0 hz1 hz2 rfl (by decide) _ _ _ rfl (hown.alloc _) ⟨w2.heap.size,0,none⟩ 1 1 [.slice au c.length cu] rfl rfl ?c1 ?c2 ?c3 ?c4 ?c5 ?_)
     case c1=>exact one_new _ _ _
     case c2=>intro x hx;simp at hx;subst hx;rfl
     case c3=>unfold maxLen;omega
     case c4=>omega
     case c5=>simp;omega
     intro v' w3 hown' hgrow _
     have R1:GrpsAt w3 w1.heap.size v' (l++[c]):=GrpsAt.push (by rw[hlk];exact hown) HROWS.out HU.out (by rw[hlk];exact hown') hgrow
     have R2:Below w1.heap.size w1 w3:=
      ((hBr.trans (hB2.mono hsr)).alloc (by omega) _).grown hgrow (by simp;omega) (fun j hj=>(hown.lt j hj).1)
     clear hown' hgrow hown
     go_wp2
     go_roundw
     case rel=>exact⟨_,k+1,by go_num,by omega,by simp;omega,R1,R2,preF_go HR.out hlt c HC2.out⟩
     case measure=>simp[intOf];omega
   ·have hkk:k=ps.length:=by omega
    have HE:Hid (listC groupC most s.data.toList sep.data.toList=some l):=by
     have h:=HR.out
     unfold preF at h
     rw[hkk,List.take_length] at h
     show _ = _
     rw[HL.out,if_pos hm,h]
    obtain⟨av,cv,hv⟩:=hG.form
    subst hv
    clear hkk
    go_wp2
    go_ret
    exact grp_some l HE.out (hG.base hB0.size) (bt hB0 hBr)
 ·have hm':¬ (ps.length:Int)<=most:=by omega
  have hd:decide ((ps.length:Int)<=most)=false:=by simp;omega
  have HE:Hid (listC groupC most s.data.toList sep.data.toList=none):=by show _ = _;rw[HL.out,if_neg hm]
  clear cY
  go_enter Tryz.func114,Tryz.ntmps114
  go_wp2_with (first|(go_at_call 64;refine c1.mono ?_;rintro e w' ⟨rfl,rfl⟩)|(go_at_call 62;refine(cN _).mono ?_;rintro e w' ⟨rfl,rfl⟩))
  exact⟨rfl,grp_none HE.out rfl ((Below.refl _ w).alloc ler _)⟩
structure QAt (w:World) (pb B:Nat) (p:M.Pk) (nv bv fv:Value):Prop where
 c0:w.cell? ⟨pb,0,none⟩=some (.string ⟨p.name.toArray⟩)
 c1:w.cell? ⟨pb,1,none⟩=some (.string ⟨p.ver.toArray⟩)
 c2:w.cell? ⟨pb,2,none⟩=some nv
 c3:w.cell? ⟨pb,3,none⟩=some bv
 c4:w.cell? ⟨pb,4,none⟩=some fv
 fz:∀ o,w.frozen? ⟨pb,o,none⟩=false
 lt:pb<B
 le:B<=w.heap.size
 needs:NeedsIn w (pb+1) B nv p.needs
 bars:RowIn w (pb+1) B bv p.bars.length (chsCells p.bars)
 files:w.ownsRow B 144 2 fv p.files.length (flsCells p.files)
 nnil:p.needs=[]->nv=.slice none 0 0
 fnil:p.files=[]->fv=.slice none 0 0
def QkAt(w:World)(pb:Nat)(p:M.Pk):Prop:=∃ B nv bv fv,QAt w pb B p nv bv fv
theorem QAt.below{w w':World}{pb B:Nat}{p:M.Pk}{nv bv fv:Value}(h:QAt w pb B p nv bv fv)(hb:Below w.heap.size w w'):QAt w' pb B p nv bv fv:=by
 have hpb:pb<w.heap.size:=Nat.lt_of_lt_of_le h.lt h.le
 have k:∀ o,w'.cell? ⟨pb,o,none⟩=w.cell? ⟨pb,o,none⟩:=fun o=>hb.cell (p:=⟨pb,o,none⟩) hpb
 have kk:∀ g o,pb+1<=g->g<B->CellS w w' g o:=fun g o _ hg=>belowS hb (Nat.lt_of_lt_of_le hg h.le)
 exact⟨(k 0).trans h.c0,(k 1).trans h.c1,(k 2).trans h.c2,(k 3).trans h.c3,(k 4).trans h.c4,fun o=>(hb.frozen (p:=⟨pb,o,none⟩) hpb).trans (h.fz o),h.lt,Nat.le_trans h.le hb.size,h.needs.keep kk,h.bars.keep kk,own_below h.files hb,h.nnil,h.fnil⟩
theorem QAt.title{w:World}{pb B:Nat}{p:M.Pk}{nv bv fv:Value}(h:QAt w pb B p nv bv fv)(X Y:ByteArray):
 QAt ((w.setCell ⟨pb,0,none⟩ (.string X)).setCell ⟨pb,1,none⟩ (.string Y)) pb B { p with name:=X.data.toList,ver:=Y.data.toList } nv bv fv:=by
 have kk:∀ g o,pb+1<=g->g<B->CellS w ((w.setCell ⟨pb,0,none⟩ (.string X)).setCell ⟨pb,1,none⟩ (.string Y)) g o:=fun g o hg _=>by
  exact((setS (by omega)).trans (setS (by omega)))
 have k1:(w.setCell ⟨pb,0,none⟩ (.string X)).cell? ⟨pb,1,none⟩=some (.string ⟨p.ver.toArray⟩):=(cell_set_off _ _ _ _ _ (by decide)).trans h.c1
 refine⟨?_,?_,?_,?_,?_,fun o=>?_,h.lt,?_,h.needs.keep kk,h.bars.keep kk,?_,h.nnil,h.fnil⟩
 ·rw[cell_set_off _ _ _ _ _ (by decide),World.cell?_setCell_same _ _ _ h.c0]
 ·rw[World.cell?_setCell_same _ _ _ k1]
 ·rw[cell_set_off _ _ _ _ _ (by decide),cell_set_off _ _ _ _ _ (by decide)];exact h.c2
 ·rw[cell_set_off _ _ _ _ _ (by decide),cell_set_off _ _ _ _ _ (by decide)];exact h.c3
 ·rw[cell_set_off _ _ _ _ _ (by decide),cell_set_off _ _ _ _ _ (by decide)];exact h.c4
 ·rw[World.frozen?_setCell,World.frozen?_setCell];exact h.fz o
 ·rw[size_set,size_set];exact h.le
 ·exact ownsRow_setCell_below (ownsRow_setCell_below h.files h.lt _) h.lt _
theorem QAt.bars'{w w1:World}{pb B:Nat}{p:M.Pk}{nv bv fv v:Value}{l:List M.Ch}(h:QAt w pb B p nv bv fv)(hb:Below w.heap.size w w1)(hf:p.files=[])
 (ho:w1.ownsRow w.heap.size 140 3 v l.length (chsCells l)):QAt (w1.setCell ⟨pb,3,none⟩ v) pb w1.heap.size { p with bars:=l } nv v fv:=by
 have h1:=h.below hb
 have hpb:pb<w.heap.size:=Nat.lt_of_lt_of_le h.lt h.le
 have hz:=hb.size
 have kk:∀ g o,pb+1<=g->g<B->CellS w1 (w1.setCell ⟨pb,3,none⟩ v) g o:=fun g o hg _=>setS (by omega)
 have kk':∀ g o,w.heap.size<=g->g<w1.heap.size->CellS w1 (w1.setCell ⟨pb,3,none⟩ v) g o:=fun g o hg _=>setS (by omega)
 have e:=h.fnil hf
 subst e
 refine⟨?_,?_,?_,?_,?_,fun o=>?_,by omega,by rw[size_set];exact Nat.le_refl _,(h1.needs.keep kk).wide ler h1.le,((RowIn.own ho).keep kk').wide (by omega) ler,?_,h.nnil,fun _=>rfl⟩
 ·rw[cell_set_off _ _ _ _ _ (by decide)];exact h1.c0
 ·rw[cell_set_off _ _ _ _ _ (by decide)];exact h1.c1
 ·rw[cell_set_off _ _ _ _ _ (by decide)];exact h1.c2
 ·rw[World.cell?_setCell_same _ _ _ h1.c3]
 ·rw[cell_set_off _ _ _ _ _ (by decide)];exact h1.c4
 ·rw[World.frozen?_setCell];exact h1.fz o
 ·show World.ownsRow _ _ _ _ _ p.files.length (flsCells p.files)
  rw[hf];exact World.ownsRow_nil _ _ _ _
theorem QAt.needs'{w w1:World}{pb B:Nat}{p:M.Pk}{nv bv fv v:Value}{l:List (List M.Ch)}(h:QAt w pb B p nv bv fv)(hb:Below w.heap.size w w1)(hf:p.files=[])(hne:l≠[])
 (hG:GrpsAt w1 w.heap.size v l):QAt (w1.setCell ⟨pb,2,none⟩ v) pb w1.heap.size { p with needs:=l } v bv fv:=by
 have h1:=h.below hb
 have hpb:pb<w.heap.size:=Nat.lt_of_lt_of_le h.lt h.le
 have hz:=hb.size
 have kk:∀ g o,pb+1<=g->g<B->CellS w1 (w1.setCell ⟨pb,2,none⟩ v) g o:=fun g o hg _=>setS (by omega)
 have kk':∀ g o,w.heap.size<=g->g<w1.heap.size->CellS w1 (w1.setCell ⟨pb,2,none⟩ v) g o:=fun g o hg _=>setS (by omega)
 have e:=h.fnil hf
 subst e
 refine⟨?_,?_,?_,?_,?_,fun o=>?_,by omega,by rw[size_set];exact Nat.le_refl _,((hG.needs ler).keep kk').wide (by omega) ler,(h1.bars.keep kk).wide ler h1.le,?_,fun e=>absurd e hne,fun _=>rfl⟩
 ·rw[cell_set_off _ _ _ _ _ (by decide)];exact h1.c0
 ·rw[cell_set_off _ _ _ _ _ (by decide)];exact h1.c1
 ·rw[World.cell?_setCell_same _ _ _ h1.c2]
 ·rw[cell_set_off _ _ _ _ _ (by decide)];exact h1.c3
 ·rw[cell_set_off _ _ _ _ _ (by decide)];exact h1.c4
 ·rw[World.frozen?_setCell];exact h1.fz o
 ·show World.ownsRow _ _ _ _ _ p.files.length (flsCells p.files)
  rw[hf];exact World.ownsRow_nil _ _ _ _
theorem QAt.grown{w wx w2:World}{pb B:Nat}{p:M.Pk}{nv bv fv:Value}(h:QAt w pb B p nv bv fv)(hb:Below w.heap.size w wx)(hg:wx.grownBy w2 fv.ownBlock):
 (∀ g o,g<B->CellS w w2 g o/\w2.frozen? ⟨g,o,none⟩=w.frozen? ⟨g,o,none⟩)/\w.heap.size<=w2.heap.size:=by
 have hz:=hb.size
 have hz2:=hg.size
 refine⟨fun g o hgB=>?_,by omega⟩
 have hl:=h.le
 have k:=grown_keep hg g (by omega) (fun e=>by have:=(h.files.lt g e.symm).1;omega) o
 exact⟨(blockS (hg.block g (by omega) (fun e=>by have:=(h.files.lt g e.symm).1;omega))).trans (belowS hb (by show g < _;omega)),k.2.trans (hb.frozen (p:=⟨g,o,none⟩) (by show g < _;omega))⟩
theorem QAt.files'{w wx w2:World}{pb B:Nat}{p:M.Pk}{nv bv fv v':Value}{X Y:ByteArray}(h:QAt w pb B p nv bv fv)(hb:Below w.heap.size w wx)(hg:wx.grownBy w2 fv.ownBlock)
 (ho:w2.ownsRow B 144 2 v' (p.files.length+1) (flsCells p.files++[.string X,.string Y])):
 QAt (w2.setCell ⟨pb,4,none⟩ v') pb B { p with files:=p.files++[⟨X.data.toList,Y.data.toList⟩] } nv bv v':=by
 obtain⟨hk,hz⟩:=h.grown hb hg
 have hlt:=h.lt
 have kk:∀ g o,pb+1<=g->g<B->CellS w (w2.setCell ⟨pb,4,none⟩ v') g o:=fun g o hg' hgB=>(setS (by omega)).trans (hk g o hgB).1
 refine⟨?_,?_,?_,?_,?_,fun o=>?_,hlt,by rw[size_set];exact Nat.le_trans h.le hz,h.needs.keep kk,h.bars.keep kk,?_,h.nnil,fun e=>by simp at e⟩
 ·rw[cell_set_off _ _ _ _ _ (by decide),(hk pb 0 hlt).1.1];exact h.c0
 ·rw[cell_set_off _ _ _ _ _ (by decide),(hk pb 1 hlt).1.1];exact h.c1
 ·rw[cell_set_off _ _ _ _ _ (by decide),(hk pb 2 hlt).1.1];exact h.c2
 ·rw[cell_set_off _ _ _ _ _ (by decide),(hk pb 3 hlt).1.1];exact h.c3
 ·rw[World.cell?_setCell_same _ _ _ ((hk pb 4 hlt).1.1.trans h.c4)]
 ·rw[World.frozen?_setCell,(hk pb o hlt).2];exact h.fz o
 ·have e:flsCells (p.files++[M.Fl.mk X.data.toList Y.data.toList])=flsCells p.files++[.string X,.string Y]:=flsCells_snoc _ _
  show World.ownsRow _ _ _ _ _ (p.files++[M.Fl.mk X.data.toList Y.data.toList]).length (flsCells (p.files++[M.Fl.mk X.data.toList Y.data.toList]))
  rw[e]
  exact ownsRow_setCell_below (by simpa using ho) hlt _
end Go.Proofs.YtgnfknjopafngabGreatDoor
