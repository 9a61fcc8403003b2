import Derived.Test.YtgnfknjopafngabGreatDoorKnae
import Derived.Laws.FloatArith
set_option maxRecDepth 100000
set_option maxHeartbeats 8000000
namespace Go.Proofs.YtgnfknjopafngabGreatDoor
open Go.RowKit Go.Maps
theorem remove_any(b:Nat)(there:List M.Pk)(xv:Value)(names:List ByteArray)(w:World)(hl:SetIn w b there)(hx:TxtsIn w xv names)(hxn:names.length<=10000)(hxs:∀ t∈names,t.size<=8192)(htn:there.length<=20000)(hts:∀ p∈there,ReadP p):
 Calls Tryz.prog 88 #[.map (some b),xv] w (AddedPost (M.removedS there (names.map fun t=>t.data.toList)) w):=by
 have HA:=hid hl.apart
 obtain⟨f,m1,v1⟩:=hl
 have cC:=mClone_any b _ w m1
 have HV:=hid v1
 obtain⟨ax,cx,ex⟩:=hx.form
 subst ex
 have HX:=hid hx
 have HXs:=hid hxs
 have HTs:=hid hts
 generalize hNS:(names.map fun t=>t.data.toList)=NS
 have HN:=hid hNS
 clear m1 v1 hx hxs hts hNS
 go_enter Tryz.func88,Tryz.ntmps88
 go_wp2_with (go_at_call 139;refine cC.mono ?_;rintro e w1 ⟨rfl,hS1,hB1⟩;have HS1:Hid _:=hS1;clear hS1)
 clear cC
 go_loopw [7,8,9,10,16] (fun _ _ _ _ i wr=>∃ (j:Nat) (left:List M.Pk),i=.int .i64 j/\j<=names.length/\Hid (StrMap Tryz.prog 9 wr w.heap.size (left.map fun p=>(p.name,f p)))/\Hid (M.dropAllS NS 0 there=M.dropAllS (NS.drop j) j left)/\Hid (M.Apart left/\(∀ p∈left,p∈there)/\left.length<=20000)/\Below w.heap.size w wr) (fun _ _ _ _ i _=>names.length-(intOf i).toNat)
 case atStart=>exact⟨0,there,rfl,Nat.zero_le _,HS1.out,rfl,⟨HA.out,fun _ h=>h,htn⟩,hB1⟩
 case round=>
  obtain⟨j,left,rfl,hj,HS,HDr,HLf,hBr⟩:=hrel
  by_cases hjl:j<names.length
  ·obtain⟨g,off,rfl,hgl,hcap,hcells⟩:=HX.out.cellAt (by omega)
   have hq:wr.cell? ⟨g,off+j,none⟩=some (.string names[j]):=(hBr.cell (p:=⟨g,off+j,none⟩) hgl).trans (hcells j hjl)
   have hsz:=HXs.out _ (List.getElem_mem hjl)
   have hdr:NS.drop j=names[j].data.toList :: NS.drop (j+1):=by
    rw[<-HN.out,List.drop_eq_getElem_cons (by rw[List.length_map];exact hjl),List.getElem_map]
   generalize names[j]=s at hq hsz hdr
   have hms:s.size<=maxLen:=by unfold maxLen;omega
   have hlook:=HS.out.look2 (T:=108) Tryz.underlying9 setMap (zeroPk_run wr) hms
   have hcl:names.length<=9223372036854775807:=by omega
   cases hlk:lookK (left.map fun p=>(p.name,f p)) s.data.toList with
   | none=>
    rw[hlk] at hlook
    simp only[Option.getD_none,Option.isSome_none,zeroPk] at hlook
    have HE:Hid (M.removedS there NS=.inl ⟨3,j,0,s.data.toList⟩):=by
     show _ = _
     unfold M.removedS
     rw[HDr.out,hdr]
     unfold M.dropAllS
     rw[find_none hlk]
    have cS:=fun W=>clone_lib s W (by omega)
    clear hlk hdr hcells
    go_wp2_with fail
    refine(cS _).mono ?_
    rintro e w3 ⟨rfl,hB3⟩
    have hB3':Below wr.heap.size wr w3:=bt ((Below.refl _ wr).alloc ler _) hB3
    clear hB3
    go_wp2
    have hB4:Below w3.heap.size w3 (w3.alloc (.cells #[.int .i64 3,.int .i64 j,.int .i64 0,.string s] 96)):=(Below.refl _ w3).alloc ler _
    refine bodyPost_ret (v:=.tuple #[.map none,.iface 91 (.pointer (some ⟨w3.heap.size,0,none⟩))]) (by simp[results,Tryz.results88,go_sem]) rfl ⟨bt (bt hBr hB3') hB4,?_⟩
    rw[HE.out]
    refine⟨_,rfl,w3.heap.size,rfl,?_⟩
    show FaultAt _ _ 3 j 0 ⟨s.data.toList.toArray⟩
    rw[mk_data]
    exact fault_new 3 j 0 s _
   | some v=>
    rw[hlk] at hlook
    obtain⟨k,hk⟩:=find_some hlk
    have hmem:=(look_mem HS.out.keys).1 hlk
    obtain⟨p,hp,hpe⟩:=List.mem_map.1 hmem
    have hsh:PkShape v:=by
     have e2:f p=v:=congrArg Prod.snd hpe
     rw[<-e2]
     exact(HV.out p (HLf.out.2.1 p hp)).shape
    obtain⟨xa,xb,x1,n1,c1,x2,n2,c2,x3,n3,c3,rfl⟩:=hsh
    simp only[Option.getD_some,Option.isSome_some] at hlook
    have HE:Hid (M.dropAllS NS 0 there=M.dropAllS (NS.drop (j+1)) (j+1) (left.filter (fun p=>p.name != s.data.toList))):=by
     show _ = _
     rw[HDr.out,hdr]
     conv=>lhs;unfold M.dropAllS
     rw[hk]
     simp only
     rw[M.drop_filter HLf.out.1 hk]
    generalize hW2:wr.alloc (.cells #[.string xa,.string xb,.slice x1 n1 c1,.slice x2 n2 c2,.slice x3 n3 c3] 87)=W2
    have hB2:Below wr.heap.size wr W2:=by rw[<-hW2];exact(Below.refl _ wr).alloc ler _
    have hS2:=HS.out.below hB2 HS.out.lt
    have hBw2:=bt hBr hB2
    clear hlk hdr hcells hmem hpe hk
    go_wp2_with (refine wpList_del_str rfl (.tmp 35) (.tmp 36) rfl Tryz.underlying9 setMap w.heap.size (left.map fun p=>(p.name,f p)) rfl hS2 s rfl hms ?_;intro w4 hS4 hg4;rw[drop_map] at hS4)
    refine⟨⟨j+1,left.filter (fun p=>p.name != s.data.toList),by go_num,hjl,hS4,HE,⟨?_,fun p hp=>HLf.out.2.1 p (List.mem_filter.1 hp).1,Nat.le_trans (List.length_filter_le _ _) HLf.out.2.2⟩,hBw2.grown hg4 hBw2.size (fun k hk=>by cases hk;exact Nat.le_refl _)⟩,?_⟩
    ·exact List.Sublist.nodup ((List.filter_sublist (l:=left)).map _) HLf.out.1
    ·simp[intOf]
     omega
  ·have hjj:j=names.length:=by omega
   have hdr:NS.drop j=[]:=by
    have e:NS.length=names.length:=by rw[<-HN.out,List.length_map]
    exact List.drop_eq_nil_of_le (by omega)
   have hLv:SetIn wr w.heap.size left:=⟨f,HS.out,fun p hp=>(HV.out p (HLf.out.2.1 p hp)).below hBr⟩
   have HE:Hid (M.removedS there NS=if M.lackingS left≠[] then .inl ⟨4,0,0,M.lackingS left⟩ else .inr left):=by
    show _ = _
    unfold M.removedS
    rw[HDr.out,hdr]
    rfl
   have cF:=firstLacking_any w.heap.size left wr hLv (by have:=HLf.out.2.2;omega) (fun p hp=>HTs.out p (HLf.out.2.1 p hp))
   have HLv:=hid hLv
   clear hLv hdr hjj
   go_wp2_with fail
   refine cF.mono ?_
   rintro e w4 ⟨T,rfl,hT,hB4⟩
   have HT:=hid hT
   have hB5:Below w.heap.size w w4:=bt hBr hB4
   have HL4:Hid (SetIn w4 w.heap.size left):=HLv.out.below hB4
   clear hT cF hB4
   by_cases ht:T.toList.isEmpty=true
   ·have HE2:Hid (M.removedS there NS=.inr left):=by
     show _ = _
     rw[HE.out,if_neg (by rw[<-HT.out,str_eq ht];simp)]
    go_wp2
    refine bodyPost_ret (v:=.tuple #[.map (some w.heap.size),.nilIface]) (by simp[results,Tryz.results88,go_sem]) rfl ⟨hB5,?_⟩
    rw[HE2.out]
    exact⟨_,rfl,HL4.out⟩
   ·replace ht:T.toList.isEmpty=false:=by simpa using ht
    have HE2:Hid (M.removedS there NS=.inl ⟨4,0,0,M.lackingS left⟩):=by
     show _ = _
     rw[HE.out,if_pos (by rw[<-HT.out];exact str_ne ht)]
    have HEr:Hid (ErrIs ⟨4,0,0,M.lackingS left⟩ (w4.alloc (.cells #[.int .i64 4,.int .i64 0,.int .i64 0,.string T] 96)) (.iface 91 (.pointer (some ⟨w4.heap.size,0,none⟩)))):=by
     refine⟨_,rfl,?_⟩
     rw[<-str_of HT.out]
     exact fault_new (w:=w4) 4 0 0 T 96
    go_wp2
    refine bodyPost_ret (v:=.tuple #[.map none,.iface 91 (.pointer (some ⟨w4.heap.size,0,none⟩))]) (by simp[results,Tryz.results88,go_sem]) rfl ⟨hB5.alloc hB5.size _,?_⟩
    rw[HE2.out]
    exact⟨_,rfl,HEr.out⟩
def OwnerPost(l:List M.Pk)(path:List UInt8)(w:World)(e:Ending)(w':World):Prop:=
 Below w.heap.size w w'/\((∃ p∈l,(∃ f∈p.files,f.path=path)/\e=.returned (.tuple #[.string ⟨p.name.toArray⟩,.bool true]))\/((∀ p∈l,∀ f∈p.files,f.path≠path)/\e=.returned (.tuple #[.string ⟨#[]⟩,.bool false])))
theorem qowner_any(b:Nat)(S:ByteArray)(l:List M.Pk)(w:World)(hl:SetIn w b l)(hs:∀ p∈l,ReadP p):
 Calls Tryz.prog 87 #[.map (some b),.string S] w (OwnerPost l S.data.toList w):=by
 have HS:=hid hs
 have hbl:=hl.lt
 obtain⟨f,m1,v1⟩:=hl
 have HV:=hid v1
 have HSh:Hid (∀ q∈l.map (fun p=>(p.name,f p)),PkShape q.2):=fun q hq=>by
  obtain⟨p,hp,rfl⟩:=List.mem_map.1 hq
  exact(v1 p hp).shape
 generalize hL:(l.map fun p=>(p.name,f p))=L at m1 HSh
 have HL:=hid hL
 clear v1 hs hL
 go_enter Tryz.func87,Tryz.ntmps87
 go_wp2_with (first|(at_range;refine wpList_range_str rfl _ rfl Tryz.underlying9 setMap b L rfl m1 ?_;intro w0 hrg0 hg0 hs0)|go_in)
 go_frame
 have hB0:Below w.heap.size w w0:=(Below.refl _ w).grown hg0 ler (fun j hj=>by cases hj)
 go_loopw [6,7,9] (fun _ _ _ wr=>∃ (todo:List KV) (cnt:Nat),Ranging Tryz.prog 9 wr b w.heap.size L todo cnt/\Hid (∀ p∈l,(p.name,f p)∈todo\/∀ g∈p.files,g.path≠S.data.toList)/\Below w.heap.size w wr) (fun _ _ _ wr=>wr.rangeLeft b w.heap.size)
 case atStart=>exact⟨L,_,hrg0,fun p hp=>.inl (by rw[<-HL.out];exact List.mem_map.2 ⟨p,hp,rfl⟩),hB0⟩
 case round=>
  obtain⟨todo,cnt,hrg,HN,hBr⟩:=hrel
  go_wp2_with (first|(at_next;refine wpList_next_pk rfl _ rfl Tryz.underlying9 b w.heap.size L todo cnt rfl hrg HSh.out ?_ ?_)|go_in)
  ·intro hc0 ht0
   have HF:Hid (∀ p∈l,∀ g∈p.files,g.path≠S.data.toList):=fun p hp=>by
    rcases HN.out p hp with h|h
    ·rw[ht0] at h;cases h
    ·exact h
   clear hc0 ht0
   go_wp2
   go_ret2
   exact⟨hBr,.inr ⟨HF.out,rfl⟩⟩
  ·intro k x y x1 n1 c1 x2 n2 c2 x3 n3 c3 todo' w' cnt' hks hperm hrg' hlt hg' hs' hen
   have hmem:(k.data.toList,Value.agg #[.string x,.string y,.slice x1 n1 c1,.slice x2 n2 c2,.slice x3 n3 c3])∈L:=by
    obtain⟨_,_,_,_,_,_,_,h4⟩:=hrg
    exact((h4 _).1 (hperm.mem_iff.2 List.mem_cons_self)).1
   obtain⟨p,hp,hpe⟩:∃ p∈l,(p.name,f p)=(k.data.toList,Value.agg #[.string x,.string y,.slice x1 n1 c1,.slice x2 n2 c2,.slice x3 n3 c3]):=by
    rw[<-HL.out] at hmem
    obtain⟨p,hp,e⟩:=List.mem_map.1 hmem
    exact⟨p,hp,e⟩
   have hpn:p.name=k.data.toList:=congrArg Prod.fst hpe
   have hpv:f p=Value.agg #[.string x,.string y,.slice x1 n1 c1,.slice x2 n2 c2,.slice x3 n3 c3]:=congrArg Prod.snd hpe
   have hrow:RowIn w 0 w.heap.size (.slice x3 n3 c3) p.files.length (flsCells p.files)/\n3=p.files.length:=by
    obtain⟨nv,bv,fv,e,_,_,h3⟩:=HV.out p hp
    rw[hpv] at e
    simp only[Value.agg.injEq,Array.mk.injEq,List.cons.injEq,and_true] at e
    obtain⟨_,_,_,_,rfl⟩:=e
    obtain⟨_,_,e3⟩:=h3.form
    injection e3 with _ e3 _
    exact⟨h3,e3⟩
   obtain⟨hrow,rfl⟩:=hrow
   have HFR:=hid hrow
   have HSp:Hid (ReadP p):=HS.out p hp
   have hfn:=HSp.out.short.filen
   have HPn:Hid (p.name=k.data.toList/\p∈l):=⟨hpn,hp⟩
   have HN1:Hid ((∀ g∈p.files,g.path≠S.data.toList)->∀ q∈l,(q.name,f q)∈todo'\/∀ g∈q.files,g.path≠S.data.toList):=fun hno q hq=>by
    rcases HN.out q hq with h|h
    ·rcases List.mem_cons.1 (hperm.mem_iff.1 h) with h|h
     ·have e:q.name=p.name:=by have:=congrArg Prod.fst h;rw[hpn];exact this
      have hap:M.Apart l:=by
       have:=hrg.map.keys
       rw[<-HL.out] at this
       unfold Keys at this
       rw[List.map_map] at this
       exact this
      rw[hap.eq hq hp e]
      exact .inr hno
     ·exact .inl h
    ·exact .inr h
   have hBw':Below w.heap.size w w':=hBr.grown hg' hBr.size (fun j hj=>by cases hj;omega)
   clear hperm hmem HN hs' hpe hpv hpn hrow hp
   generalize hW2:w'.alloc (.cells #[.string x,.string y,.slice x1 n1 c1,.slice x2 n2 c2,.slice x3 p.files.length c3] 87)=W2
   have hga:w'.grownBy W2 none:=by rw[<-hW2];exact World.grownBy_alloc w' _ none
   have hrg2:=hrg'.kept hga (by simp) (by simp)
   have q4:W2.cell? ⟨w'.heap.size,4,none⟩=some (.slice x3 p.files.length c3):=by rw[<-hW2];exact new_at w' [.string x,.string y,.slice x1 n1 c1,.slice x2 n2 c2,.slice x3 p.files.length c3] _ 4 _ rfl
   have hBw2:Below w.heap.size w W2:=hBw'.grown hga hBw'.size (fun j hj=>by cases hj)
   have HLt:Hid (cnt'<cnt/\wr.rangeLeft b w.heap.size=cnt):=⟨hlt,hrg.left_eq⟩
   go_wp2
   go_loopw [9,20] (fun _ i wr=>∃ (j:Nat),i=.int .i64 j/\j<=p.files.length/\Ranging Tryz.prog 9 wr b w.heap.size L todo' cnt'/\Hid (∀ g∈p.files.take j,g.path≠S.data.toList)/\Below w.heap.size w wr) (fun _ i _=>p.files.length-(intOf i).toNat)
   case atStart=>exact⟨0,rfl,Nat.zero_le _,hrg2,fun g hg=>by simp at hg,hBw2⟩
   case round=>
    obtain⟨j,rfl,hj,hrj,HJ,hBj⟩:=hrel
    by_cases hlj:j<p.files.length
    ·obtain⟨gf,rfl,hgf,hcapf,hcf⟩:=HFR.out.cellAt (by omega)
     obtain⟨f0,f1⟩:=file_cells hlj
     obtain⟨Y,hY⟩:∃ Y:ByteArray,Y=⟨p.files[j].path.toArray⟩:=⟨_,rfl⟩
     have q0:wr.cell? ⟨gf,j*2,none⟩=some (.string Y):=by rw[hY];exact(hBj.cell (p:=⟨gf,j*2,none⟩) hgf).trans (hcf _ _ f0)
     have q1:wr.cell? ⟨gf,j*2+1,none⟩=some (.string ⟨p.files[j].content.toArray⟩):=(hBj.cell (p:=⟨gf,j*2+1,none⟩) hgf).trans (hcf _ _ f1)
     have HYd:Hid (Y.data.toList=p.files[j].path):=by show _ = _;rw[hY]
     generalize hW3:wr.alloc (.cells #[.string Y,.string ⟨p.files[j].content.toArray⟩] 144)=W3
     have hgb:wr.grownBy W3 none:=by rw[<-hW3];exact World.grownBy_alloc wr _ none
     have r0:W3.cell? ⟨wr.heap.size,0,none⟩=some (.string Y):=by rw[<-hW3];exact new_at wr [.string Y,.string ⟨p.files[j].content.toArray⟩] _ 0 _ rfl
     have hrj3:=hrj.kept hgb (by simp) (by simp)
     have hBj3:Below w.heap.size w W3:=hBj.grown hgb hBj.size (fun j hj=>by cases hj)
     clear hY f0 f1 hcf
     go_wp2
     ·rename_i hq
      go_ret2
      refine⟨hBj3,.inl ⟨p,HPn.out.2,⟨p.files[j],List.getElem_mem hlj,?_⟩,?_⟩⟩
      ·rw[<-HYd.out,<-Lib.toList_data,<-Lib.toList_data]
       exact eq_of_beq hq
      ·rw[HPn.out.1,mk_data]
       rfl
     ·rename_i hq
      refine⟨⟨j+1,by go_num,hlj,hrj3,fun g hg=>?_,hBj3⟩,?_⟩
      ·rw[List.take_succ_eq_append_getElem hlj] at hg
       rcases List.mem_append.1 hg with h|h
       ·exact HJ.out g h
       ·rw[List.mem_singleton.1 h,<-HYd.out,<-Lib.toList_data,<-Lib.toList_data]
        intro e
        rw[e,beq_self_eq_true] at hq
        cases hq
      ·simp[intOf]
       omega
    ·have hjj:j=p.files.length:=by omega
     have HNo:Hid (∀ q∈l,(q.name,f q)∈todo'\/∀ g∈q.files,g.path≠S.data.toList):=HN1.out (by
      have:=HJ.out
      rw[hjj,List.take_length] at this
      exact this)
     go_wp2
     refine⟨⟨todo',cnt',hrj,HNo,hBj⟩,?_⟩
     rw[hrj.left_eq,HLt.out.2]
     exact HLt.out.1
theorem sOwner_any(s k b:Nat)(S:ByteArray)(l:List M.Pk)(w:World)(hs:StoreAt w s k b)(hl:SetIn w b l)(hr:∀ p∈l,ReadP p):
 Calls Tryz.prog 41 #[.pointer (some ⟨s,0,none⟩),.string S] w (OwnerPost l S.data.toList w):=by
 have cA:=qowner_any b S l w hl hr
 have q1:w.cell? ⟨s,1,none⟩=some (.map (some b)):=(cell_of_row w _ 1 _ _ (0,0) hs).trans rfl
 clear hs hl hr
 go_enter Tryz.func41,Tryz.ntmps41
 go_wp2_with fail
 refine cA.mono ?_
 rintro e w2 ⟨hB2,⟨p,hp,hf,rfl⟩|⟨hf,rfl⟩⟩
 ·have HF:Hid (p∈l/\∃ f∈p.files,f.path=S.data.toList):=⟨hp,hf⟩
  clear hp hf cA
  go_wp2
  go_ret2
  exact⟨hB2,.inl ⟨p,HF.out.1,HF.out.2,rfl⟩⟩
 ·have HF:Hid (∀ p∈l,∀ f∈p.files,f.path≠S.data.toList):=hf
  clear hf cA
  go_wp2
  go_ret2
  exact⟨hB2,.inr ⟨HF.out,rfl⟩⟩
theorem xOwner_any(x d s k b:Nat)(S:ByteArray)(l:List M.Pk)(w:World)(hx:SessAt w x d (.pointer (some ⟨s,0,none⟩)))(hs:StoreAt w s k b)(hl:SetIn w b l)(hr:∀ p∈l,ReadP p):
 Calls Tryz.prog 24 #[.pointer (some ⟨x,0,none⟩),.string S] w (OwnerPost l S.data.toList w):=by
 have cA:=sOwner_any s k b S l w hs hl hr
 have q1:w.cell? ⟨x,1,none⟩=some (.pointer (some ⟨s,0,none⟩)):=(cell_of_row w _ 1 _ _ (0,0) hx).trans rfl
 clear hs hl hr hx
 go_enter Tryz.func24,Tryz.ntmps24
 go_wp2_with fail
 refine cA.mono ?_
 rintro e w2 ⟨hB2,⟨p,hp,hf,rfl⟩|⟨hf,rfl⟩⟩
 ·have HF:Hid (p∈l/\∃ f∈p.files,f.path=S.data.toList):=⟨hp,hf⟩
  clear hp hf cA
  go_wp2
  go_ret2
  exact⟨hB2,.inl ⟨p,HF.out.1,HF.out.2,rfl⟩⟩
 ·have HF:Hid (∀ p∈l,∀ f∈p.files,f.path≠S.data.toList):=hf
  clear hf cA
  go_wp2
  go_ret2
  exact⟨hB2,.inr ⟨HF.out,rfl⟩⟩
end Go.Proofs.YtgnfknjopafngabGreatDoor
namespace Go.Proofs.YtgnfknjopafngabGreatDoor
open Go
theorem d_binade:Ieee.double.binade=4503599627370496:=rfl
theorem d_inf:Ieee.double.infRung=9218868437227405312:=rfl
theorem d_least:Ieee.double.leastPlace = -1074:=rfl
theorem d_frac:Ieee.double.fractionBits=52:=rfl
theorem cut_zero(neg:Bool)(n:Nat):Ieee.Toward.even.cut neg n 0=n:=by
 unfold Ieee.Toward.cut
 simp only[Nat.zero_min,Nat.shiftLeft_zero,Nat.div_one,Nat.mod_one]
 simp
theorem log_of{n k:Nat}(h1:2 ^ k<=n)(h2:n<2 ^ (k+1)):n.log2=k:=(Nat.log2_eq_iff (by have:=Nat.two_pow_pos k;omega)).2 ⟨h1,h2⟩
theorem log_bounds{n:Nat}(h:0<n):2 ^ n.log2<=n/\n<2 ^ (n.log2+1):=(Nat.log2_eq_iff (by omega)).1 rfl
theorem shl(n k:Nat):n <<< k=n*2 ^ k:=Nat.shiftLeft_eq n k
theorem fl_read(w:Nat)(h:w<9223372036854775808):Ieee.double.read w=if w<4503599627370496 then .number false w (-1074) else if w<9218868437227405312 then .number false (4503599627370496+w % 4503599627370496) (-1074+((w / 4503599627370496-1:Nat):Int)) else if w=9218868437227405312 then .infinity false else .nan false (w-9218868437227405312):=by
 show (if w % 9223372036854775808<4503599627370496 then Ieee.Datum.number (w / 9223372036854775808 % 2 == 1) (w % 9223372036854775808) (-1074) else if w % 9223372036854775808<9218868437227405312 then .number (w / 9223372036854775808 % 2 == 1) (4503599627370496+w % 9223372036854775808 % 4503599627370496) (-1074+((w % 9223372036854775808 / 4503599627370496-1:Nat):Int)) else if w % 9223372036854775808=9218868437227405312 then .infinity (w / 9223372036854775808 % 2 == 1) else .nan (w / 9223372036854775808 % 2 == 1) (w % 9223372036854775808-9218868437227405312)) = _
 rw[Nat.mod_eq_of_lt h,Nat.div_eq_of_lt h]
 rfl
def sig(n:Nat):Nat:=n*2 ^ (52-n.log2)
theorem sig_bounds{n:Nat}(h:0<n)(hl:n.log2<=52):4503599627370496<=sig n/\sig n<9007199254740992:=by
 obtain⟨h1,h2⟩:=log_bounds h
 unfold sig
 have e1:2 ^ n.log2*2 ^ (52-n.log2)=4503599627370496:=by
  rw[<-Nat.pow_add,show n.log2+(52-n.log2)=52 by omega]
 have e2:2 ^ (n.log2+1)*2 ^ (52-n.log2)=9007199254740992:=by
  rw[<-Nat.pow_add,show n.log2+1+(52-n.log2)=53 by omega]
 have hp:=Nat.two_pow_pos (52-n.log2)
 exact⟨by rw[<-e1];exact Nat.mul_le_mul_right _ h1,by rw[<-e2];exact Nat.mul_lt_mul_of_pos_right h2 hp⟩
theorem near_small{n:Nat}(h:0<n)(hl:n.log2<=52):Ieee.double.nearest false n 0=(n.log2+1022)*4503599627370496+sig n:=by
 obtain⟨h1,h2⟩:=sig_bounds h hl
 unfold Ieee.Format.nearest
 rw[if_neg (by omega)]
 simp only[d_frac,d_least,d_binade,d_inf]
 have e:max ((0:Int)+n.log2-(52:Nat)) (-1074)=(n.log2:Int)-52:=by omega
 rw[e,show ((0:Int)-((n.log2:Int)-52)).toNat=52-n.log2 by omega,show ((n.log2:Int)-52-0).toNat=0 by omega,cut_zero,shl,show ((n.log2:Int)-52 - -1074).toNat=n.log2+1022 by omega]
 unfold Ieee.Format.word
 simp only[Bool.false_eq_true,if_false]
 show min ((n.log2+1022)*4503599627370496+sig n) _ = _
 omega
theorem fl_small{n:Nat}(h:0<n)(hl:n.log2<=52):Ieee.double.read (Ieee.double.nearest false n 0)=.number false (sig n) ((n.log2:Int)-52):=by
 obtain⟨h1,h2⟩:=sig_bounds h hl
 rw[near_small h hl]
 rw[fl_read _ (by omega),if_neg (by omega),if_pos (by omega)]
 have e3:((n.log2+1022)*4503599627370496+sig n) % 4503599627370496=sig n-4503599627370496:=by omega
 have e4:((n.log2+1022)*4503599627370496+sig n) / 4503599627370496=n.log2+1023:=by omega
 rw[e3,e4,show 4503599627370496+(sig n-4503599627370496)=sig n by omega,show (-1074+((n.log2+1023-1:Nat):Int))=(n.log2:Int)-52 by omega]
theorem near_nan(m:Nat)(p:Int):(Ieee.double.read (Ieee.double.nearest false m p)).isNaN=false:=by
 obtain⟨r,hr,e⟩:∃ r,r<=9218868437227405312/\Ieee.double.nearest false m p=r:=by
  unfold Ieee.Format.nearest
  split
  ·exact⟨_,by unfold Ieee.Format.word;simp,rfl⟩
  ·refine⟨_,?_,rfl⟩
   unfold Ieee.Format.word
   simp only[Bool.false_eq_true,if_false,d_inf]
   exact Nat.min_le_right _ _
 rw[e]
 rw[fl_read _ (by omega)]
 split
 ·rfl
 ·split
  ·rfl
  ·rw[if_pos (by omega)]
   rfl
theorem order_self{w:Nat}(h:(Ieee.double.read w).isNaN=false):Ieee.double.order w w=some .eq:=by
 unfold Ieee.Format.order
 cases hd:Ieee.double.read w with
 | nan s f=>rw[hd] at h;cases h
 | infinity s=>simp[Ieee.Datum.order]
 | number s m i=>simp[Ieee.Datum.order]
theorem order_one{w:Nat}(h:w<=4607182418800017408):Ieee.double.order w 4607182418800017408≠some .gt/\Ieee.double.order w 0≠some .lt:=by
 have r1:Ieee.double.read 4607182418800017408=.number false 4503599627370496 (-52):=rfl
 have r0:Ieee.double.read 0=.number false 0 (-1074):=rfl
 unfold Ieee.Format.order
 rw[r1,r0]
 rw[fl_read w (by omega)]
 have key:∀ (m:Nat) (i:Int),i<=-52->-1074<=i->(m<9007199254740992/\i < -52\/m<=4503599627370496)->Ieee.Datum.order (.number false m i) (.number false 4503599627370496 (-52))≠some .gt/\Ieee.Datum.order (.number false m i) (.number false 0 (-1074))≠some .lt:=by
  intro m i h1 h2 h3
  have hb:min i (-52)=i:=by omega
  have hb2:min i (-1074) = -1074:=by omega
  constructor
  ·unfold Ieee.Datum.order
   simp only[hb]
   unfold Ieee.signed
   simp only[Bool.false_eq_true,if_false,shl,show (i-i).toNat=0 by omega,Nat.pow_zero,Nat.mul_one]
   intro hc
   have hc:=Option.some.inj hc
   rw[Int.compare_eq_gt] at hc
   have hp:=Nat.two_pow_pos (-52-i).toNat
   have h4:m<=4503599627370496*2 ^ (-52-i).toNat:=by
    rcases h3 with ⟨h3,h5⟩|h3
    ·have:2 ^ 1<=2 ^ (-52-i).toNat:=Nat.pow_le_pow_right (by omega) (by omega)
     omega
    ·exact Nat.le_trans h3 (Nat.le_mul_of_pos_right _ hp)
   omega
  ·unfold Ieee.Datum.order
   simp only[hb2]
   unfold Ieee.signed
   simp only[Bool.false_eq_true,if_false,shl,Nat.zero_mul]
   intro hc
   have hc:=Option.some.inj hc
   rw[Int.compare_eq_lt] at hc
   omega
 by_cases h1:w<4503599627370496
 ·rw[if_pos h1]
  exact key _ _ (by omega) (by omega) (.inr (by omega))
 ·rw[if_neg h1,if_pos (by omega)]
  refine key _ _ (by omega) (by omega) ?_
  by_cases h2:w=4607182418800017408
  ·subst h2
   exact .inr (by decide)
  ·exact .inl ⟨by omega,by omega⟩
theorem near_one{Q:Nat}{pl:Int}(h0:0<Q)(h1:52<Q.log2)(hp : -1000<=pl)(h2:pl+Q.log2<=-1):Ieee.double.nearest false Q pl<=4607182418800017408:=by
 obtain⟨b1,b2⟩:=log_bounds h0
 unfold Ieee.Format.nearest
 rw[if_neg (by omega)]
 simp only[d_frac,d_least,d_binade,d_inf]
 generalize hl:Q.log2=l at *
 have e:max (pl+(l:Int)-(52:Nat)) (-1074)=pl+l-52:=by omega
 rw[e,show (pl-(pl+(l:Int)-52)).toNat=0 by omega,show (pl+(l:Int)-52-pl).toNat=l-52 by omega,shl,Nat.pow_zero,Nat.mul_one]
 unfold Ieee.Format.word
 simp only[Bool.false_eq_true,if_false]
 have hc:Ieee.Toward.even.cut false Q (l-52)<=9007199254740992:=by
  unfold Ieee.Toward.cut
  simp only[hl,shl,Nat.one_mul]
  rw[show min (l-52) (l+2)=l-52 by omega]
  have hlow:Q / 2 ^ (l-52)<9007199254740992:=by
   rw[Nat.div_lt_iff_lt_mul (Nat.two_pow_pos _)]
   have e2:9007199254740992*2 ^ (l-52)=2 ^ (l+1):=by
    rw[show (9007199254740992:Nat)=2 ^ 53 from rfl,<-Nat.pow_add,show 53+(l-52)=l+1 by omega]
   omega
  have:∀ b:Bool,b.toNat<=1:=fun b=>by cases b <;> decide
  exact Nat.le_trans (Nat.add_le_add_left (this _) _) hlow
 generalize Ieee.Toward.even.cut false Q (l-52)=c at hc
 have h3:(pl+(l:Int)-52 - -1074).toNat<=1021:=by omega
 generalize (pl+(l:Int)-52 - -1074).toNat=z at h3
 have hm:=Nat.min_le_left (z*4503599627370496+c) 9218868437227405312
 omega
theorem float_nat(n:Nat):floatOfInt .f64 (n:Int)=Ieee.double.nearest false n 0:=by
 show Ieee.double.nearest (decide ((n:Int)<0)) (n:Int).natAbs 0 = _
 rw[show decide ((n:Int)<0)=false by simp,Int.natAbs_natCast]
theorem fill_bits(n r:Nat)(hr:0<r)(hr2:r<1048576)(hn:n<1048576):
 ∃ q,floatBits .quo .f64 (floatOfInt .f64 (n:Int)) (floatOfInt .f64 (r:Int))=some q/\Ieee.double.order q q=some .eq/\(n<=r->Ieee.double.order q 4607182418800017408≠some .gt/\Ieee.double.order q 0≠some .lt):=by
 have hlog:∀ m,0<m->m<1048576->m.log2<=19:=fun m h1 h2=>by
  rcases Nat.lt_or_ge m.log2 20 with h|h
  ·omega
  ·have h3:=(log_bounds h1).1
   have:2 ^ 20<=2 ^ m.log2:=Nat.pow_le_pow_right (by omega) h
   omega
 have hlr:=hlog r hr hr2
 rw[float_nat,float_nat]
 show ∃ q,((Ieee.double.read _).quotient (Ieee.double.fractionBits+2) (Ieee.double.read _)).map Ieee.double.write=some q/\_
 rw[fl_small hr (by omega),d_frac]
 obtain⟨k1,k2⟩:=sig_bounds hr (by omega)
 by_cases h0:n=0
 ·subst h0
  have e0:Ieee.double.read (Ieee.double.nearest false 0 0)=.number false 0 (-1074):=rfl
  rw[e0]
  unfold Ieee.Datum.quotient
  simp only
  rw[if_neg (by omega)]
  simp only[shl,Nat.zero_mul,Nat.zero_div,Nat.zero_mod,Nat.mul_zero,bne_self_eq_false,Bool.toNat_false,Option.map_some]
  refine⟨_,rfl,order_self (near_nan _ _),fun _=>order_one ?_⟩
  show Ieee.double.nearest false 0 _<=_
  unfold Ieee.Format.nearest
  rw[if_pos rfl]
  decide
 ·have hn0:0<n:=by omega
  have hln:=hlog n hn0 hn
  rw[fl_small hn0 (by omega)]
  obtain⟨j1,j2⟩:=sig_bounds hn0 (by omega)
  unfold Ieee.Datum.quotient
  simp only
  rw[if_neg (by omega)]
  rw[log_of (n:=sig r) (k:=52) k1 k2,log_of (n:=sig n) (k:=52) j1 j2]
  simp only[shl,Option.map_some,Bool.xor_false]
  refine⟨_,rfl,order_self (near_nan _ _),fun hle=>order_one ?_⟩
  show Ieee.double.nearest false _ _<=_
  generalize hK:sig n=K at *
  generalize hK':sig r=K' at *
  rw[show 52+2+52-52=54 from rfl]
  have hq1:9007199254740992<=K*2 ^ 54 / K':=by
   rw[Nat.le_div_iff_mul_le (by omega)]
   omega
  have hq2:K*2 ^ 54 / K'<2 ^ 55:=by
   rw[Nat.div_lt_iff_lt_mul (by omega)]
   omega
  have hb:∀ b:Bool,b.toNat<=1:=fun b=>by cases b <;> decide
  have hb1:=hb (K*2 ^ 54 % K' != 0)
  by_cases hlt:n.log2<r.log2
  ·have hlQ:∀ Q,18014398509481984<=Q->Q<2 ^ 56->54<=Q.log2/\Q.log2<=55:=fun Q h1 h2=>by
    have hb:=log_bounds (n:=Q) (by omega)
    constructor
    ·rcases Nat.lt_or_ge Q.log2 54 with h|h
     ·have:2 ^ (Q.log2+1)<=2 ^ 54:=Nat.pow_le_pow_right (by omega) (by omega)
      omega
     ·exact h
    ·rcases Nat.lt_or_ge Q.log2 56 with h|h
     ·omega
     ·have:2 ^ 56<=2 ^ Q.log2:=Nat.pow_le_pow_right (by omega) h
      omega
   obtain⟨l1,l2⟩:=hlQ (2*(K*2 ^ 54 / K')+(K*2 ^ 54 % K' != 0).toNat) (by omega) (by omega)
   exact near_one (by omega) (by omega) (by omega) (by omega)
  ·have hlog2:n.log2=r.log2:=by
    have h1:=(log_bounds hn0).1
    have h2:=(log_bounds hr).2
    rcases Nat.lt_or_ge r.log2 n.log2 with h|h
    ·have:2 ^ (r.log2+1)<=2 ^ n.log2:=Nat.pow_le_pow_right (by omega) h
     omega
    ·omega
   have hKK:K<=K':=by
    rw[<-hK,<-hK']
    unfold sig
    rw[hlog2]
    exact Nat.mul_le_mul_right _ hle
   have hpl:(n.log2:Int)-52-((r.log2:Int)-52)-(54:Nat)-1 = -55:=by omega
   rw[hpl]
   by_cases hK2:K=K'
   ·subst hK2
    rw[Nat.mul_div_cancel_left _ (by omega),Nat.mul_mod_right]
    decide
   ·have hq3:K*2 ^ 54 / K'<2 ^ 54:=by
     rw[Nat.div_lt_iff_lt_mul (by omega)]
     omega
    have hl:(2*(K*2 ^ 54 / K')+(K*2 ^ 54 % K' != 0).toNat).log2=54:=log_of (by omega) (by omega)
    exact near_one (by omega) (by omega) (by omega) (by omega)
end Go.Proofs.YtgnfknjopafngabGreatDoor
namespace Go.Proofs.YtgnfknjopafngabGreatDoor
open Go.RowKit Go.Maps
theorem sFill_any(s k b d half n:Nat)(l:List M.Pk)(w:World)(hs:StoreAt w s k b)(hk:KnownAt w k d half)(hd:SecsOf w d n)(h1:16<=n)(h2:n<=256)(hl:SetIn w b l)(hr:∀ p∈l,ReadP p)(hz:M.sizeS l<=1000000):
 Calls Tryz.prog 40 #[.pointer (some ⟨s,0,none⟩)] w fun e w'=>∃ q,floatBits .quo .f64 (floatOfInt .f64 (M.sizeS l:Int)) (floatOfInt .f64 (24*((n:Int)-8)))=some q/\e=.returned (.float .f64 q)/\Below w.heap.size w w':=by
 obtain⟨q,hq,-⟩:=fill_bits (M.sizeS l) (24*(n-8)) (by omega) (by omega) (by omega)
 rw[show ((24*(n-8):Nat):Int)=24*((n:Int)-8) by omega] at hq
 have hsl:s<w.heap.size:=(ges.1 hs).1
 have q0:w.cell? ⟨s,0,none⟩=some (.pointer (some ⟨k,0,none⟩)):=(cell_of_row w _ 0 _ _ (0,0) hs).trans rfl
 have q1:w.cell? ⟨s,1,none⟩=some (.map (some b)):=(cell_of_row w _ 1 _ _ (0,0) hs).trans rfl
 have cS:=fun wx (hb:Below w.heap.size w wx)=>qsize_any b l wx (hl.below hb) hr (by omega)
 have cR:=fun wx (hb:Below w.heap.size w wx)=>kRoom_any k d half n wx (KnownAt.below hk hb) (hd.below hb) h1 h2
 have HQ:=hid hq
 have hB0:Below w.heap.size w w.drew:=(Below.refl _ w).drew
 generalize M.sizeS l=Z at cS HQ hq hz ⊢
 generalize (24*((n:Int)-8))=R at cR HQ hq ⊢
 have hdv:=fun wx=>run_float_arith (P:=Tryz.prog) wx .quo 66 .f64 _ _ q hq
 clear hs hk hd hl hr hq
 go_enter Tryz.func40,Tryz.ntmps40
 go_wp2
 go_region_with (first
  | (go_at_call 86;refine(cS _ hB0).mono ?_;rintro e w2 ⟨rfl,hB2⟩;have hB3:Below w.heap.size w w2:=bt hB0 hB2;have q2:w2.cell? ⟨s,0,none⟩=some (.pointer (some ⟨k,0,none⟩)):=(hB3.cell (p:=⟨s,0,none⟩) hsl).trans q0)
  | (go_at_call 84;refine(cR _ (by assumption)).mono ?_;rintro e w3 ⟨rfl,rfl⟩))
 all_goals
  go_wp2
  go_ret
  exact⟨q,HQ.out,rfl,by assumption⟩
theorem xFill_any(x s k b d half n:Nat)(l:List M.Pk)(w:World)(hx:SessAt w x d (.pointer (some ⟨s,0,none⟩)))(hs:StoreAt w s k b)(hk:KnownAt w k d half)(hd:SecsOf w d n)(h1:16<=n)(h2:n<=256)(hl:SetIn w b l)(hr:∀ p∈l,ReadP p)(hz:M.sizeS l<=1000000):
 Calls Tryz.prog 23 #[.pointer (some ⟨x,0,none⟩)] w fun e w'=>∃ q,floatBits .quo .f64 (floatOfInt .f64 (M.sizeS l:Int)) (floatOfInt .f64 (24*((n:Int)-8)))=some q/\e=.returned (.float .f64 q)/\Below w.heap.size w w':=by
 have cA:=sFill_any s k b d half n l w hs hk hd h1 h2 hl hr hz
 have q1:w.cell? ⟨x,1,none⟩=some (.pointer (some ⟨s,0,none⟩)):=(cell_of_row w _ 1 _ _ (0,0) hx).trans rfl
 generalize M.sizeS l=Z at cA hz ⊢
 generalize (24*((n:Int)-8))=R at cA ⊢
 clear hx hs hk hd hl hr
 go_enter Tryz.func23,Tryz.ntmps23
 go_wp2_with fail
 refine cA.mono ?_
 rintro e w2 ⟨q,hq,rfl,hB2⟩
 have HQ:=hid hq
 clear hq cA
 go_wp2
 go_ret
 exact⟨q,HQ.out,rfl,hB2⟩
theorem change_refused(s fb:Nat)(m:Value)(w:World):
 Calls Tryz.prog 85 #[.pointer (some ⟨s,0,none⟩),m,.iface 91 (.pointer (some ⟨fb,0,none⟩))] w fun e w'=>e=.returned (.iface 91 (.pointer (some ⟨fb,0,none⟩)))/\w'=w:=by
 go_enter Tryz.func85,Tryz.ntmps85
 go_wp2
 go_ret
 exact⟨rfl,rfl⟩
def ChangedPost(R:Sum M.Fa (List M.Pk))(Post:List M.Pk->Ending->World->Prop)(w:World)(e:Ending)(w':World):Prop:=match R with
 | .inl f=>Below w.heap.size w w'/\∃ ev,e=.returned ev/\ErrIs f w' ev
 | .inr all=>Post all e w'
theorem sRemove_any(s k b:Nat)(there:List M.Pk)(xv:Value)(names:List ByteArray)(Post:List M.Pk->Ending->World->Prop)(w:World)(hs:StoreAt w s k b)(hl:SetIn w b there)(hx:TxtsIn w xv names)(hxn:names.length<=10000)(hxs:∀ t∈names,t.size<=8192)(htn:there.length<=20000)(hts:∀ p∈there,ReadP p)
 (hP:∀ all nb wx,M.removedS there (names.map fun t=>t.data.toList)=.inr all->Below w.heap.size w wx->SetIn wx nb all->Calls Tryz.prog 85 #[.pointer (some ⟨s,0,none⟩),.map (some nb),.nilIface] wx fun e w'=>(∃ v,e=.returned v)/\Post all e w'):
 Calls Tryz.prog 42 #[.pointer (some ⟨s,0,none⟩),xv] w (ChangedPost (M.removedS there (names.map fun t=>t.data.toList)) Post w):=by
 have cA:=remove_any b there xv names w hl hx hxn hxs htn hts
 obtain⟨ax,cx,ex⟩:=hx.form
 subst ex
 have q1:w.cell? ⟨s,1,none⟩=some (.map (some b)):=(cell_of_row w _ 1 _ _ (0,0) hs).trans rfl
 have HP:=hid hP
 generalize M.removedS there (names.map fun t=>t.data.toList)=R at cA HP ⊢
 clear hs hl hx hxs hts hP
 go_enter Tryz.func42,Tryz.ntmps42
 go_wp2_with fail
 refine cA.mono ?_
 rintro e w2 ⟨hB2,hm⟩
 clear cA
 cases R with
 | inl f=>
  obtain⟨ev,rfl,fb,rfl,hF⟩:=hm
  have HF:Hid (ErrIs f w2 (.iface 91 (.pointer (some ⟨fb,0,none⟩)))):=⟨fb,rfl,hF⟩
  have cC:=change_refused s fb (.map none) w2
  clear hF
  go_wp2_with fail
  refine cC.mono ?_
  rintro e w3 ⟨rfl,hw3⟩
  clear cC
  go_wp2
  go_ret
  exact⟨hB2,_,rfl,HF.out⟩
 | inr all=>
  obtain⟨nb,rfl,hS⟩:=hm
  have cC:=HP.out all nb w2 rfl hB2 hS
  clear hS
  go_wp2_with fail
  refine cC.mono ?_
  rintro e w3 ⟨⟨v,rfl⟩,hp⟩
  have HQ:=hid hp
  clear cC hp
  go_wp2
  go_ret
  exact HQ.out
theorem sInstall_any(s k b d half n:Nat)(there:List M.Pk)(xv:Value)(texts:List ByteArray)(Post:List M.Pk->Ending->World->Prop)(w:World)(hR:Ready w)(hs:StoreAt w s k b)(hk:KnownAt w k d half)(hd:SecsOf w d n)(h1:16<=n)(h2:n<=256)(hl:SetIn w b there)(hx:TxtsIn w xv texts)(hxn:texts.length<=10000)(hxs:∀ t∈texts,t.size<=8192)(htn:there.length<=20000)(hts:∀ p∈there,ReadP p)
 (hP:∀ all nb wx,M.installedS there (texts.map fun t=>t.data.toList) (24*((n:Int)-8))=.inr all->Below w.heap.size w wx->SetIn wx nb all->Calls Tryz.prog 85 #[.pointer (some ⟨s,0,none⟩),.map (some nb),.nilIface] wx fun e w'=>(∃ v,e=.returned v)/\Post all e w'):
 Calls Tryz.prog 39 #[.pointer (some ⟨s,0,none⟩),xv] w (ChangedPost (M.installedS there (texts.map fun t=>t.data.toList) (24*((n:Int)-8))) Post w):=by
 have hB0:Below w.heap.size w w.drew:=(Below.refl _ w).drew
 have cA:=install_any b (24*(n-8)) there xv texts w.drew (hR.below hB0) (hl.below hB0) (hx.below hB0) hxn hxs htn hts
 have cR:=kRoom_any k d half n w.drew (KnownAt.below hk hB0) (hd.below hB0) h1 h2
 rw[show ((24*(n-8):Nat):Int)=24*((n:Int)-8) by omega] at cA
 obtain⟨ax,cx,ex⟩:=hx.form
 subst ex
 have q0:w.cell? ⟨s,0,none⟩=some (.pointer (some ⟨k,0,none⟩)):=(cell_of_row w _ 0 _ _ (0,0) hs).trans rfl
 have q1:w.cell? ⟨s,1,none⟩=some (.map (some b)):=(cell_of_row w _ 1 _ _ (0,0) hs).trans rfl
 generalize 24*((n:Int)-8)=Z at cA cR hP ⊢
 have HP:=hid hP
 generalize M.installedS there (texts.map fun t=>t.data.toList) Z=R at cA HP ⊢
 clear hs hl hx hxs hts hP hk hd hR
 go_enter Tryz.func39,Tryz.ntmps39
 go_wp2
 cases R with
 | inl f=>
  go_region_with (first
   | (go_at_call 84;refine cR.mono ?_;rintro e w3 ⟨rfl,rfl⟩)
   | (go_at_call 83;refine cA.mono ?_;rintro e w2 ⟨hB2,ev,rfl,fb,rfl,hF⟩))
  all_goals
   have hB3:Below w.heap.size w w2:=bt hB0 hB2
   have HF:Hid (ErrIs f w2 (.iface 91 (.pointer (some ⟨fb,0,none⟩)))):=⟨fb,rfl,hF⟩
   have cC:=change_refused s fb (.map none) w2
   clear hF hB2
   go_wp2_with fail
   refine cC.mono ?_
   rintro e w3 ⟨rfl,hw3⟩
   clear cC
   go_wp2
   go_ret
   exact⟨hB3,_,rfl,HF.out⟩
 | inr all=>
  go_region_with (first
   | (go_at_call 84;refine cR.mono ?_;rintro e w3 ⟨rfl,rfl⟩)
   | (go_at_call 83;refine cA.mono ?_;rintro e w2 ⟨hB2,nb,rfl,hS⟩))
  all_goals
   have cC:=HP.out all nb w2 rfl (bt hB0 hB2) hS
   clear hS hB2
   go_wp2_with fail
   refine cC.mono ?_
   rintro e w3 ⟨⟨v,rfl⟩,hp⟩
   have HQ:=hid hp
   clear cC hp
   go_wp2
   go_ret
   exact HQ.out
end Go.Proofs.YtgnfknjopafngabGreatDoor
