import Derived.Test.YtgnfknjopafngaaGreatDoorKuy
set_option maxRecDepth 100000
set_option maxHeartbeats 8000000
namespace Go.Proofs.YtgnfknjopafngaaGreatDoor
open Go.RowKit
def Zhq(p:M.Pk)(P:List UInt8):Bool:=p.files.any fun f=>f.path == P
theorem Z4a{l:List M.Pk}{P:List UInt8}{n:Nat}(hn:n<l.length)(h:Zhq l[n] P=true)(ha:∀ p∈l.take n,Zhq p P=false):M.Zfb l P=l[n].name:=by
 unfold M.Zfb
 have e:l.find? (fun p=>p.files.any fun f=>f.path == P)=some l[n]:=by
  rw[List.find?_eq_some_iff_getElem]
  refine⟨h,n,hn,rfl,fun j hj=>?_⟩
  have:=ha (l[j]'(by omega)) (by rw[List.mem_take_iff_getElem];exact⟨j,by omega,rfl⟩)
  unfold Zhq at this
  rw[this]
  rfl
 rw[e]
theorem owner_none{l:List M.Pk}{P:List UInt8}(ha:∀ p∈l,Zhq p P=false):M.Zfb l P=[]:=by
 unfold M.Zfb
 have e:l.find? (fun p=>p.files.any fun f=>f.path == P)=none:=by
  rw[List.find?_eq_none]
  intro p hp
  have:=ha p hp
  unfold Zhq at this
  rw[this]
  simp
 rw[e]
theorem Z5h(lv:Value)(l:List M.Pk)(P:ByteArray)(w:World)(hl:Zbc w lv l)(hln:l.length<=1000000)(hs:∀ p∈l,Zdk p):
 Calls Tryz.prog 68 #[lv,.string P] w fun e w'=>∃ T:ByteArray,e=.returned (.string T)/\T.data.toList=M.Zfb l P.data.toList/\Below w.heap.size w w':=by
 obtain⟨al,cl,el⟩:=hl.form
 subst el
 have HL:=hid hl
 have HS:=hid hs
 clear hl hs
 go_enter Tryz.func68,Tryz.ntmps68
 go_wp2
 go_loopw [5,6] (fun i _ wr=>∃ n:Nat,i=.int .i64 n/\n<=l.length/\Below w.heap.size w wr/\Hid (∀ p∈l.take n,Zhq p P.data.toList=false)) (fun i _ _=>l.length-(intOf i).toNat)
 case atStart=>exact⟨0,rfl,Nat.zero_le _,Below.refl _ _,fun p hp=>by simp at hp⟩
 case round=>
  obtain⟨n,rfl,hn,hBr,HR⟩:=hrel
  by_cases hlt:n<l.length
  ·have hfn:=(HS.out _ (List.getElem_mem hlt)).filen
   obtain⟨bl,off,rfl,_,hcapl,nv,bv,fv,o0,_,_,_,o4,_,_,hF⟩:=HL.out.cells hlt
   obtain⟨af,cf,ef⟩:=hF.form
   subst ef
   have hbl:bl<w.heap.size:=World.block_lt_of_cell? _ _ o0
   have HF:=hid hF
   have HO0:=hid o0
   have HO4:=hid o4
   clear o0 o4 hF
   obtain⟨W0,hW0⟩:∃ W,W=wr:=⟨_,rfl⟩
   subst hW0
   go_wp2
   go_loopw [6] (fun j wr=>∃ k:Nat,j=.int .i64 k/\k<=l[n].files.length/\Below w.heap.size w wr/\Hid (∀ f∈l[n].files.take k,f.path≠P.data.toList)) (fun j _=>l[n].files.length-(intOf j).toNat)
   case atStart=>exact⟨0,rfl,Nat.zero_le _,hBr,fun f hf=>by simp at hf⟩
   case round=>
    obtain⟨k,rfl,hk,hBk,HQ⟩:=hrel
    have c4:wr.cell? ⟨bl,off+n*5+4,none⟩=some (.slice af l[n].files.length cf):=(hBk.cell (p:=⟨bl,off+n*5+4,none⟩) hbl).trans HO4.out
    by_cases hlk:k<l[n].files.length
    ·obtain⟨gf,rfl,hgf,hcapf,hcf⟩:=HF.out.cellAt (by omega)
     have c5:wr.cell? ⟨gf,k*2,none⟩=some (.string ⟨l[n].files[k].path.toArray⟩):=(hBk.cell (p:=⟨gf,k*2,none⟩) hgf).trans (hcf _ _ (by rw[Nat.mul_comm];exact Zgp hlk))
     obtain⟨X,hX⟩:∃ X:ByteArray,X=⟨l[n].files[k].path.toArray⟩:=⟨_,rfl⟩
     rw[<-hX] at c5
     have HX:Hid (X.data.toList=l[n].files[k].path):=by show _ = _;rw[hX]
     clear hX hcf
     by_cases hm:(X.toList == P.toList)=true
     ·have c0:wr.cell? ⟨bl,off+n*5,none⟩=some (.string ⟨l[n].name.toArray⟩):=(hBk.cell (p:=⟨bl,off+n*5,none⟩) hbl).trans HO0.out
      have HE:Hid (M.Zfb l P.data.toList=l[n].name):=by
       refine Z4a hlt (List.any_eq_true.2 ⟨l[n].files[k],List.getElem_mem hlk,?_⟩) HR.out
       rw[Lib.toList_data,Lib.toList_data,beq_iff_eq,HX.out] at hm
       simp[hm]
      go_wp2
      go_ret
      exact⟨_,rfl,by rw[HE.out],hBk⟩
     ·replace hm:(X.toList == P.toList)=false:=by simpa using hm
      have HQ2:Hid (∀ f∈l[n].files.take (k+1),f.path≠P.data.toList):=fun f hf=>by
       rw[List.take_succ_eq_append_getElem hlk] at hf
       rcases List.mem_append.1 hf with hf|hf
       ·exact HQ.out f hf
       ·simp at hf
        subst hf
        rw[Lib.toList_data,Lib.toList_data,beq_eq_false_iff_ne,HX.out] at hm
        exact hm
      go_wp2
      go_roundw
      case rel=>exact⟨k+1,by go_num,by omega,hBk,HQ2⟩
      case measure=>simp[intOf];omega
    ·have hkk:k=l[n].files.length:=by omega
     have HR2:Hid (∀ p∈l.take (n+1),Zhq p P.data.toList=false):=fun p hp=>by
      rw[List.take_succ_eq_append_getElem hlt] at hp
      rcases List.mem_append.1 hp with hp|hp
      ·exact HR.out p hp
      ·simp at hp
       subst hp
       unfold Zhq
       rw[List.any_eq_false]
       intro f hf
       have:=HQ.out f (by rw[hkk,List.take_length];exact hf)
       simpa using this
     clear hkk HQ
     go_wp2
     go_roundw
     case rel=>exact⟨n+1,by go_num,by omega,hBk,HR2⟩
     case measure=>simp[intOf];omega
  ·have hnn:n=l.length:=by omega
   have HE:Hid (M.Zfb l P.data.toList=[]):=owner_none (fun p hp=>HR.out p (by rw[hnn,List.take_length];exact hp))
   go_wp2
   go_ret
   exact⟨_,rfl,by rw[HE.out],hBr⟩
def Zzs(R:Sum M.Fa (List M.Pk))(w:World)(e:Ending)(w':World):Prop:=
 Below w.heap.size w w'/\match R with
  | .inl f=>e=.returned (.tuple #[.slice none 0 0,faV f])
  | .inr all=>∃ av,e=.returned (.tuple #[av,faV M.Ycn])/\Zbc w' av all/\Zjt w' av all
theorem Ztj{qQ:List M.Pk}{qX:List (List UInt8)}{all:List M.Pk}{qG:List (List UInt8)}(h:M.Zar qQ qX=.inr (all,qG))(hr:∀ p∈qQ,Zbb p):
 ∃ qZ,M.Zav qX 0 []=.inr qZ/\all=qQ++qZ/\M.Zbf qZ 0 qQ=.inr all/\(∀ p∈all,Zbb p)/\all.length=qQ.length+qX.length:=by
 unfold M.Zar at h
 cases h1:M.Zav qX 0 [] with
 | inl f=>rw[h1] at h;cases h
 | inr qZ=>
  rw[h1] at h
  dsimp only at h
  cases h2:M.Zbf qZ 0 qQ with
  | inl f=>rw[h2] at h;cases h
  | inr al=>
   rw[h2] at h
   dsimp only at h
   unfold M.Zcc at h
   split at h
   ·cases h
   ·split at h
    ·cases h
    ·split at h
     ·cases h
     ·split at h
      ·cases h
      ·cases h
       have e:=M.Zi9 _ _ _ _ h2
       refine⟨qZ,rfl,e,h2,fun p hp=>?_,?_⟩
       ·rw[e] at hp
        rcases List.mem_append.1 hp with hp|hp
        ·exact hr p hp
        ·rcases M.Zgm _ _ _ _ h1 p hp with h|⟨t,_,h⟩
         ·cases h
         ·exact Ybj h
       ·rw[e,List.length_append,M.Zge _ _ _ _ h1]
        simp
theorem Zvt{qQ:List M.Pk}{qX:List (List UInt8)}{f:M.Fa}(h:M.Zar qQ qX=.inl f):f.kind≠0:=by
 have h1:∀ (ts:List (List UInt8)) (i:Nat) (acc:List M.Pk) (f:M.Fa),M.Zav ts i acc=.inl f->f.kind≠0:=by
  intro ts
  induction ts with
  | nil=>intro i acc f h;cases h
  | cons t ts ih=>
   intro i acc f h
   simp only[M.Zav] at h
   split at h
   ·cases h;simp
   ·exact ih _ _ _ h
 have h2:∀ (ps:List M.Pk) (i:Nat) (acc:List M.Pk) (f:M.Fa),M.Zbf ps i acc=.inl f->f.kind≠0:=by
  intro ps
  induction ps with
  | nil=>intro i acc f h;cases h
  | cons p ps ih=>
   intro i acc f h
   simp only[M.Zbf] at h
   split at h
   ·cases h;simp
   ·exact ih _ _ _ h
 unfold M.Zar at h
 split at h
 ·rename_i g e
  cases h
  exact h1 _ _ _ _ e
 ·split at h
  ·rename_i g e
   cases h
   exact h2 _ _ _ _ e
  ·unfold M.Zcc at h
   split at h
   ·cases h;simp
   ·split at h
    ·cases h;simp
    ·split at h
     ·cases h;simp
     ·split at h
      ·cases h;simp
      ·cases h
theorem Ztt(tv xv:Value)(qQ:List M.Pk)(qX:List ByteArray)(n:Nat)(w:World)(ht:Zbc w tv qQ)(hx:Za8 w xv qX)(hn:n<=256)(htn:qQ.length<=20000)(hxn:qX.length<=20000)(hxs:∀ t∈qX,t.size<=20000)(hs:∀ p∈qQ,Zbb p):
 Calls Tryz.prog 105 #[tv,xv,.int .i64 n] w (Zzs (M.Zap qQ (qX.map fun t=>t.data.toList) (Znd n)) w):=by
 have cP:=fun wx (hb:Below w.heap.size w wx)=>Zor tv xv qQ qX wx (ht.below hb) (Za8.below hx hb) htn hxn hxs (fun p hp=>(hs p hp).smallQ)
 have hall:=fun all qG (h:M.Zar qQ (qX.map fun t=>t.data.toList)=.inr (all,qG))=>Ztj h hs
 obtain⟨at',ct,et⟩:=ht.form
 subst et
 obtain⟨ax,cx,ex⟩:=hx.form
 subst ex
 clear ht hx hxs hs
 generalize hW1:w.alloc (.cells #[.int .i64 0,.int .i64 0,.int .i64 0,.string ⟨#[]⟩] 34)=W1
 have s1:W1.heap.size=w.heap.size+1:=by rw[<-hW1];simp
 have HB1:Hid (Below w.heap.size w W1):=by rw[<-hW1];exact(Below.refl _ w).alloc ler _
 obtain⟨_,_,nb3,nb4⟩:=Zme w [.int .i64 0,.int .i64 0,.int .i64 0,.string ⟨#[]⟩] 34 0
 have HK:Hid (∀ o u,[Value.int .i64 0,.int .i64 0,.int .i64 0,.string ⟨#[]⟩][o]? = some u->W1.cell? ⟨w.heap.size,o,none⟩=some u):=by rw[<-hW1];exact nb3
 have HFZ:Hid (∀ o,W1.frozen? ⟨w.heap.size,o,none⟩=false):=by rw[<-hW1];exact nb4
 clear nb3 nb4
 have HZ:Hid (∀ W,Below W1.heap.size W1 W->W.cell? ⟨w.heap.size,0,none⟩=some (.int .i64 0)/\W.cell? ⟨w.heap.size,1,none⟩=some (.int .i64 0)/\W.cell? ⟨w.heap.size,2,none⟩=some (.int .i64 0)/\W.cell? ⟨w.heap.size,3,none⟩=some (.string ⟨#[]⟩)/\∀ o,W.frozen? ⟨w.heap.size,o,none⟩=false):=fun W hb=>by
  have kc:∀ o,W.cell? ⟨w.heap.size,o,none⟩=W1.cell? ⟨w.heap.size,o,none⟩:=fun o=>hb.cell (p:=⟨w.heap.size,o,none⟩) (by show w.heap.size < _;omega)
  exact⟨(kc 0).trans (HK.out 0 _ rfl),(kc 1).trans (HK.out 1 _ rfl),(kc 2).trans (HK.out 2 _ rfl),(kc 3).trans (HK.out 3 _ rfl),fun o=>(hb.frozen (p:=⟨w.heap.size,o,none⟩) (by show w.heap.size < _;omega)).trans (HFZ.out o)⟩
 go_enter Tryz.func105,Tryz.ntmps105
 go_wp2_with fail
 refine(cP _ HB1.out).mono ?_
 rintro e w2 ⟨hB2,hm⟩
 clear cP
 have hB12:Below w.heap.size w w2:=bt HB1.out hB2
 cases hR:M.Zar qQ (qX.map fun t=>t.data.toList) with
 | inl f=>
  rw[hR] at hm
  subst hm
  have hk:f.kind≠0:=Zvt hR
  obtain⟨fk,fw,fl,fn⟩:=f
  obtain⟨N,hN⟩:∃ N:ByteArray,N=⟨fn.toArray⟩:=⟨_,rfl⟩
  have HPV:Hid (faV ⟨fk,fw,fl,fn⟩=.agg #[.int .i64 fk,.int .i64 fw,.int .i64 fl,.string N]):=by show faV _ = _;rw[hN];rfl
  rw[HPV.out]
  have hk0:((fk:Int) != 0)=true:=by simpa using hk
  have hk1:¬ ((fk:Int)=0):=by have:fk≠0:=hk;omega
  have HI:Hid (M.Zap qQ (qX.map fun t=>t.data.toList) (Znd n)=.inl ⟨fk,fw,fl,fn⟩):=by
   show _ = _
   unfold M.Zap
   rw[hR]
  generalize hW3:w2.alloc (.cells #[.int .i64 fk,.int .i64 fw,.int .i64 fl,.string N] 34)=W3
  have HB3:Hid (Below w2.heap.size w2 W3):=by rw[<-hW3];exact(Below.refl _ w2).alloc ler _
  have HC3:Hid (∀ j u,[Value.int .i64 fk,.int .i64 fw,.int .i64 fl,.string N][j]? = some u->W3.cell? ⟨w2.heap.size,j,none⟩=some u):=by rw[<-hW3];exact fun j u hu=>Zbk w2 _ _ j u hu
  have q0:=HC3.out 0 _ rfl
  have q1:=HC3.out 1 _ rfl
  have q2:=HC3.out 2 _ rfl
  have q3:=HC3.out 3 _ rfl
  obtain⟨z0,z1,z2,z3,zf⟩:=HZ.out W3 (bt hB2 HB3.out)
  have HBF:Hid (Below w.heap.size w W3):=bt hB12 HB3.out
  clear hN hall hk hR
  go_wp2
  go_region
  all_goals
   go_wp2
   refine bodyPost_ret (v:=.tuple #[.slice none 0 0,.agg #[.int .i64 fk,.int .i64 fw,.int .i64 fl,.string N]]) (by simp[results,Tryz.results105,go_sem,z0,z1,z2,z3]) rfl ⟨?_,?_⟩
   ·exact below_drewN ((((HBF.out.setCell ler _).setCell ler _).setCell ler _).setCell ler _) 1
   ·rw[HI.out]
    show _ = Ending.returned (.tuple #[.slice none 0 0,faV ⟨fk,fw,fl,fn⟩])
    rw[HPV.out]
 | inr an=>
  obtain⟨all,qG⟩:=an
  rw[hR] at hm
  obtain⟨av,ov,rfl,hav,hov,hty⟩:=hm
  obtain⟨qZ,-,-,-,hrp,hlen⟩:=hall all qG hR
  rw[List.length_map] at hlen
  replace hlen:all.length<=40000:=by omega
  obtain⟨aa,ca,ea⟩:=hav.form
  subst ea
  obtain⟨ao,co,eo⟩:=hov.form
  subst eo
  have HAV:=hid hav
  have HTy:=hid hty
  have HI:Hid (M.Zap qQ (qX.map fun t=>t.data.toList) (Znd n)=if Znd n<M.Zbn all then .inl ⟨8,0,0,[]⟩ else .inr all):=by
   show _ = _
   unfold M.Zap
   rw[hR]
  have eF:faV M.Ycn=.agg #[.int .i64 0,.int .i64 0,.int .i64 0,.string ⟨#[]⟩]:=rfl
  rw[eF]
  have HB3:Hid (Below w2.heap.size w2 (w2.alloc (.cells #[.int .i64 0,.int .i64 0,.int .i64 0,.string ⟨#[]⟩] 34))):=(Below.refl _ w2).alloc ler _
  have cS:=fun wx (hb:Below w2.heap.size w2 wx)=>Zze (.slice aa all.length ca) all wx (HAV.out.below hb) (by omega) hrp
  have cR:=fun wx=>Zy5 n wx hn
  have HRP:=hid hrp
  clear hall hR hav hov hrp eF hty
  go_wp2_with fail
  refine(cS _ HB3.out).mono ?_
  rintro e w4 ⟨rfl,hB4⟩
  have hB14:Below W1.heap.size W1 w4:=bt hB2 (bt HB3.out hB4)
  obtain⟨z0,z1,z2,z3,zf⟩:=HZ.out w4 hB14
  have HBF:Hid (Below w.heap.size w w4):=bt hB12 (bt HB3.out hB4)
  have hB24:Below w2.heap.size w2 w4:=bt HB3.out hB4
  by_cases hgt:Znd n<M.Zbn all
  ·have HI2:Hid (M.Zap qQ (qX.map fun t=>t.data.toList) (Znd n)=.inl ⟨8,0,0,[]⟩):=by show _ = _;rw[HI.out,if_pos hgt]
   clear cS HI
   generalize M.Zbn all=sz at hgt ⊢
   generalize Znd n=rm at hgt cR
   have hgt':((sz:Int) > rm):=hgt
   go_wp2_with (go_at_call 70;refine(cR _).mono ?_;rintro e w' ⟨rfl,rfl⟩)
   refine bodyPost_ret (v:=.tuple #[.slice none 0 0,.agg #[.int .i64 8,.int .i64 0,.int .i64 0,.string ⟨#[]⟩]]) (by simp[results,Tryz.results105,go_sem,z0,z1,z2,z3]) rfl ⟨?_,?_⟩
   ·exact(((HBF.out.setCell ler _).setCell ler _).setCell ler _).setCell ler _
   ·rw[HI2.out]
    rfl
  ·have HI2:Hid (M.Zap qQ (qX.map fun t=>t.data.toList) (Znd n)=.inr all):=by show _ = _;rw[HI.out,if_neg hgt]
   clear cS HI
   generalize M.Zbn all=sz at hgt ⊢
   generalize Znd n=rm at hgt cR
   have hgt':¬ ((sz:Int) > rm):=hgt
   go_wp2_with (go_at_call 70;refine(cR _).mono ?_;rintro e w' ⟨rfl,rfl⟩)
   refine bodyPost_ret (v:=.tuple #[.slice aa all.length ca,.agg #[.int .i64 0,.int .i64 0,.int .i64 0,.string ⟨#[]⟩]]) (by simp[results,Tryz.results105,go_sem,z0,z1,z2,z3]) rfl ⟨?_,?_⟩
   ·exact(((HBF.out.setCell ler _).setCell ler _).setCell ler _).setCell ler _
   ·rw[HI2.out]
    exact⟨_,rfl,(HAV.out.below hB24).same (by rw[Za0,Za0,Za0,Za0]) (fun a=>Zkz z0 z1 z2 z3 a) (fun g e=>Zb0 (Zb0 (Zb0 (Zb0 e)))),((((HTy.out.below hB24).set _ _ _).set _ _ _).set _ _ _).set _ _ _⟩
namespace M
theorem Zig:∀ (ns:List (List UInt8)) (i:Nat) (acc all:List Pk) (n:List UInt8) (r:List (List UInt8)),Zb4 ns i acc=.inr all->Zb4 (ns++n :: r) i acc=(match all.findIdx? (fun p=>p.name == n) with|none=>.inl ⟨3,i+ns.length,0,n⟩|some k=>Zb4 r (i+ns.length+1) (all.take k++all.drop (k+1)))
 | [],i,acc,all,n,r,h=>by simp only[Zb4,Sum.inr.injEq] at h;subst h;rfl
 | m :: ns,i,acc,all,n,r,h=>by
  simp only[Zb4,List.cons_append] at h ⊢
  cases hf:acc.findIdx? (fun p=>p.name == m) with
  | none=>rw[hf] at h;cases h
  | some k=>
   rw[hf] at h
   dsimp only at h ⊢
   rw[Zig ns (i+1) _ all n r h,List.length_cons,show i+1+ns.length=i+(ns.length+1) by omega]
end M
theorem Zx9(tv xv:Value)(qQ:List M.Pk)(qG:List ByteArray)(w:World)(ht:Zbc w tv qQ)(hx:Za8 w xv qG)(htn:qQ.length<=40000)(hxn:qG.length<=20000)(hs:∀ p∈qQ,Zdk p):
 Calls Tryz.prog 106 #[tv,xv] w (Zzs (M.Za6 qQ (qG.map fun t=>t.data.toList)) w):=by
 obtain⟨at',ct,et⟩:=ht.form
 subst et
 obtain⟨ax,cx,ex⟩:=hx.form
 subst ex
 generalize hW1:w.alloc (.cells #[.int .i64 0,.int .i64 0,.int .i64 0,.string ⟨#[]⟩] 34)=W1
 have s1:W1.heap.size=w.heap.size+1:=by rw[<-hW1];simp
 have HB1:Hid (Below w.heap.size w W1):=by rw[<-hW1];exact(Below.refl _ w).alloc ler _
 obtain⟨_,_,nb3,nb4⟩:=Zme w [.int .i64 0,.int .i64 0,.int .i64 0,.string ⟨#[]⟩] 34 0
 have HK:Hid (∀ o u,[Value.int .i64 0,.int .i64 0,.int .i64 0,.string ⟨#[]⟩][o]? = some u->W1.cell? ⟨w.heap.size,o,none⟩=some u):=by rw[<-hW1];exact nb3
 have HFZ:Hid (∀ o,W1.frozen? ⟨w.heap.size,o,none⟩=false):=by rw[<-hW1];exact nb4
 clear nb3 nb4
 have HZ:Hid (∀ W,Below W1.heap.size W1 W->W.cell? ⟨w.heap.size,0,none⟩=some (.int .i64 0)/\W.cell? ⟨w.heap.size,1,none⟩=some (.int .i64 0)/\W.cell? ⟨w.heap.size,2,none⟩=some (.int .i64 0)/\W.cell? ⟨w.heap.size,3,none⟩=some (.string ⟨#[]⟩)/\∀ o,W.frozen? ⟨w.heap.size,o,none⟩=false):=fun W hb=>by
  have kc:∀ o,W.cell? ⟨w.heap.size,o,none⟩=W1.cell? ⟨w.heap.size,o,none⟩:=fun o=>hb.cell (p:=⟨w.heap.size,o,none⟩) (by show w.heap.size < _;omega)
  exact⟨(kc 0).trans (HK.out 0 _ rfl),(kc 1).trans (HK.out 1 _ rfl),(kc 2).trans (HK.out 2 _ rfl),(kc 3).trans (HK.out 3 _ rfl),fun o=>(hb.frozen (p:=⟨w.heap.size,o,none⟩) (by show w.heap.size < _;omega)).trans (HFZ.out o)⟩
 have HT:Hid (Zbc W1 (.slice at' qQ.length ct) qQ):=ht.below HB1.out
 have HX:Hid (Za8 W1 (.slice ax qG.length cx) qG):=Za8.below hx HB1.out
 have HS:=hid hs
 clear ht hx hs
 go_enter Tryz.func106,Tryz.ntmps106
 go_wp2_with (at_builtin;refine Zhj rfl _ _ rfl W1 none 0 (.slice at' qQ.length ct) [] qQ rfl rfl ⟨.inl ⟨rfl,none,0,rfl⟩,fun h=>absurd rfl h⟩ rfl (fun _=>rfl) (Zg4.of HT.out) (by simp;omega) ?_;intro v' w1 hv1 hB1)
 rw[List.nil_append] at hv1
 clear HT
 go_loopw [6,7,8] (fun lv i _ wr=>∃ (k:Nat) (left:List M.Pk),i=.int .i64 k/\k<=qG.length/\Zcv W1 wr lv left/\left.length<=40000/\Below W1.heap.size W1 wr/\Hid (M.Zb4 ((qG.take k).map fun t=>t.data.toList) 0 qQ=.inr left)/\Hid (∀ p∈left,Zdk p)) (fun _ i _ _=>qG.length-(intOf i).toNat)
 case atStart=>exact⟨0,qQ,rfl,Nat.zero_le _,hv1,by omega,hB1,rfl,HS⟩
 case round=>
  obtain⟨k,left,rfl,hk,hv,hll,hBr,HD,HSL⟩:=hrel
  obtain⟨a1,c1,e1⟩:=hv.form
  subst e1
  have HV:=hid hv
  clear hv
  by_cases hlt:k<qG.length
  ·obtain⟨gx,rfl,hgx,hcapx,hcx⟩:=HX.out.cellAt (by omega)
   have c0:wr.cell? ⟨gx,k,none⟩=some (.string qG[k]):=(hBr.cell (p:=⟨gx,k,none⟩) hgx).trans (hcx k _ (by simp[hlt]))
   have HSplit:Hid (qG.map (fun t=>t.data.toList)=(qG.take k).map (fun t=>t.data.toList)++qG[k].data.toList :: (qG.drop (k+1)).map (fun t=>t.data.toList)):=Zkh hlt
   have HTake:Hid ((qG.take (k+1)).map (fun t=>t.data.toList)=(qG.take k).map (fun t=>t.data.toList)++[qG[k].data.toList]):=Zlz hlt
   generalize qG[k]=T at c0 HSplit HTake
   have cN:=fun wx (hb:Below wr.heap.size wr wx)=>Zni (.slice a1 left.length c1) left T wx ((HV.out.below hb).1.pks (bt hBr hb)) (by omega)
   clear hcx
   go_wp2_with fail
   refine(cN _ (Below.refl _ _)).mono ?_
   rintro e w3 ⟨rfl,hB3⟩
   have hB13:Below W1.heap.size W1 w3:=bt hBr hB3
   have c1':w3.cell? ⟨gx,k,none⟩=some (.string T):=(hB3.cell (p:=⟨gx,k,none⟩) (World.block_lt_of_cell? _ _ c0)).trans c0
   clear cN c0
   cases hf:left.findIdx? (fun p=>p.name == T.data.toList) with
   | none=>
    have e:Zke left T = -1:=by unfold Zke M.Zex;rw[hf]
    rw[e]
    have HP:Hid (M.Za6 qQ (qG.map fun t=>t.data.toList)=.inl ⟨3,k,0,T.data.toList⟩):=by
     show _ = _
     unfold M.Za6
     rw[HSplit.out,M.Zig _ _ _ _ _ _ HD.out,hf]
     simp[Nat.min_eq_left (Nat.le_of_lt hlt)]
    have HPV:Hid (faV ⟨3,k,0,T.data.toList⟩=.agg #[.int .i64 3,.int .i64 k,.int .i64 0,.string T]):=by
     show faV _ = _
     have:T=⟨T.data.toList.toArray⟩:=Zjb rfl
     unfold faV
     rw[<-this]
     rfl
    obtain⟨z0,z1,z2,z3,zf⟩:=HZ.out w3 hB13
    have HBF:Hid (Below w.heap.size w w3):=HB1.out.trans (hB13.mono (by omega))
    clear e hf HV
    go_wp2
    go_region
    all_goals
     go_wp2
     refine bodyPost_ret (v:=.tuple #[.slice none 0 0,.agg #[.int .i64 3,.int .i64 k,.int .i64 0,.string T]]) (by simp[results,Tryz.results106,go_sem,z0,z1,z2,z3]) rfl ⟨?_,?_⟩
     ·exact below_drewN ((((HBF.out.setCell ler _).setCell ler _).setCell ler _).setCell ler _) 1
     ·rw[HP.out]
      show _ = Ending.returned (.tuple #[.slice none 0 0,faV _])
      rw[HPV.out]
   | some j=>
    have hjl:j<left.length:=(List.findIdx?_eq_some_iff_getElem.1 hf).1
    have e:Zke left T=(j:Int):=by unfold Zke M.Zex;rw[hf]
    rw[e]
    have HD2:Hid (M.Zb4 ((qG.take (k+1)).map fun t=>t.data.toList) 0 qQ=.inr (left.take j++left.drop (j+1))):=by
     show _ = _
     rw[HTake.out,M.Zig _ _ _ _ _ _ HD.out,hf]
     rfl
    obtain⟨g,off,rfl,_,hcap,hl1,hs2⟩:=(HV.out.below hB3).cut hjl
    have hs2':=hs2.keep (w':=w3.drew) ler (fun _ _ _ _ _ _ _=>rfl)
    have hl1':=hl1.below (Zae w3 1)
    have e1:(left.take j).length=j:=by rw[List.length_take];omega
    have e2:(left.drop (j+1)).length=left.length-(j+1):=List.length_drop
    have hA:=fun W=>Zzb W g off left.length c1 j (by omega)
    have hD:=fun W=>Zu5 W g off left.length c1 (j+1) (by omega)
    have hw1:((j+1:Nat):Int)=(j:Int)+1:=by omega
    rw[hw1] at hD
    have hw2:IntKind.i64.wrap ((j:Int)+1)=(j:Int)+1:=by rw[IntKind.wrap_i64];omega
    have hS:Zg4 W1 w3.drew (.slice (if c1=j+1 then some ⟨g,off,none⟩ else some ⟨g,off+(j+1)*5,none⟩) (left.length-(j+1)) (c1-(j+1))) (left.drop (j+1)):=by
     by_cases hc:c1=j+1
     ·exact .inl ⟨List.length_eq_zero_iff.mp (by rw[e2];omega),if c1=j+1 then some ⟨g,off,none⟩ else some ⟨g,off+(j+1)*5,none⟩,c1-(j+1),by rw[show left.length-(j+1)=0 by omega]⟩
     ·rw[if_neg hc];exact hs2'
    obtain⟨V,hV⟩:∃ V,V=Value.slice (if c1=j+1 then some ⟨g,off,none⟩ else some ⟨g,off+(j+1)*5,none⟩) (left.length-(j+1)) (c1-(j+1)):=⟨_,rfl⟩
    rw[<-hV] at hS hD
    have HS1:Hid (Zcv W1 w3.drew (.slice (some ⟨g,off,none⟩) j j) (left.take j)):=hl1'
    have HS2:=hid hS
    have hlen2:(left.take j++left.drop (j+1)).length=left.length-1:=by rw[List.length_append,e1,e2];omega
    have HLen:Hid ((left.take j++left.drop (j+1)).length<=40000):=by show _<=_;rw[hlen2];omega
    have HSL2:Hid (∀ p∈left.take j++left.drop (j+1),Zdk p):=fun p hp=>HSL.out p (by
     rcases List.mem_append.1 hp with hp|hp
     ·exact List.mem_of_mem_take hp
     ·exact List.mem_of_mem_drop hp)
    have hj0:¬ ((j:Int)<0):=by omega
    clear hV hs2' hs2 hw1 e2 hl1' hS hl1 HV hlen2 e hf hcap
    go_wp2
    go_region_law (refine Ziu rfl (.tmp 35) (.tmp 39) rfl W1 (some ⟨g,off,none⟩) (left.take j).length V (left.take j) (left.drop (j+1)) (by rw[e1];simp[Act.eval,Act.put]) (by simp[Act.eval,Act.put]) (by rw[e1];exact HS1.out) rfl (fun h=>by cases h) (by exact HS2.out) (by rw[e1,List.length_drop];omega) ?_;intro v5 w5 hv5 hB5)
    have hB6:Below W1.heap.size W1 w5:=bt hB13 (bt (Zae w3 1) hB5)
    clear HS1 HS2 hA hD hw2
    simp only[Act.put,List.getElem_toArray,List.getElem_cons_succ,List.getElem_cons_zero,List.setIfInBounds_toArray,List.set_cons_succ,List.set_cons_zero]
    go_wp2
    go_roundw
    case rel=>exact⟨k+1,left.take j++left.drop (j+1),by go_num,by omega,hv5,HLen.out,hB6,HD2,HSL2⟩
    case measure=>simp[intOf];omega
  ·have hkk:k=qG.length:=by omega
   have HD2:Hid (M.Zb4 (qG.map fun t=>t.data.toList) 0 qQ=.inr left):=by
    have h:=HD.out
    rw[hkk,List.take_length] at h
    exact h
   have cL:=fun wx (hb:Below wr.heap.size wr wx)=>Zoc (.slice a1 left.length c1) left wx ((HV.out.below hb).1.pks (bt hBr hb)) (by omega) HSL.out
   have HVr:Hid (Zbc wr (.slice a1 left.length c1) left):=HV.out.1.pks hBr
   have HTy:Hid (Zjt wr (.slice a1 left.length c1) left):=HV.out.2
   clear hkk HD HV
   go_wp2_with fail
   refine(cL _ (Below.refl _ _)).mono ?_
   rintro e w3 ⟨T1,rfl,hT1,hB3⟩
   have HT1:=hid hT1
   have hB13:Below W1.heap.size W1 w3:=bt hBr hB3
   obtain⟨z0,z1,z2,z3,zf⟩:=HZ.out w3 hB13
   have HBF:Hid (Below w.heap.size w w3):=HB1.out.trans (hB13.mono (by omega))
   clear cL hT1
   by_cases ht1:T1.toList.isEmpty=true
   ·have HP:Hid (M.Za6 qQ (qG.map fun t=>t.data.toList)=.inr left):=by
     show _ = _
     unfold M.Za6
     rw[HD2.out]
     dsimp only
     rw[if_neg (by rw[<-HT1.out,str_eq ht1];simp)]
    go_wp2
    refine bodyPost_ret (v:=.tuple #[.slice a1 left.length c1,.agg #[.int .i64 0,.int .i64 0,.int .i64 0,.string ⟨#[]⟩]]) (by simp[results,Tryz.results106,go_sem,z0,z1,z2,z3]) rfl ⟨?_,?_⟩
    ·exact(((HBF.out.setCell ler _).setCell ler _).setCell ler _).setCell ler _
    ·rw[HP.out]
     exact⟨_,rfl,(HVr.out.below hB3).same (by rw[Za0,Za0,Za0,Za0]) (fun a=>Zkz z0 z1 z2 z3 a) (fun g e=>Zb0 (Zb0 (Zb0 (Zb0 e)))),((((HTy.out.below hB3).set _ _ _).set _ _ _).set _ _ _).set _ _ _⟩
   ·replace ht1:T1.toList.isEmpty=false:=by simpa using ht1
    have HP:Hid (M.Za6 qQ (qG.map fun t=>t.data.toList)=.inl ⟨4,0,0,M.Za2 left⟩):=by
     show _ = _
     unfold M.Za6
     rw[HD2.out]
     dsimp only
     rw[if_pos (by rw[<-HT1.out];exact Zku ht1)]
    have HPV:Hid (faV ⟨4,0,0,M.Za2 left⟩=.agg #[.int .i64 4,.int .i64 0,.int .i64 0,.string T1]):=by show faV _ = _;rw[Zjb HT1.out];rfl
    go_wp2
    refine bodyPost_ret (v:=.tuple #[.slice none 0 0,.agg #[.int .i64 4,.int .i64 0,.int .i64 0,.string T1]]) (by simp[results,Tryz.results106,go_sem,z0,z1,z2,z3]) rfl ⟨?_,?_⟩
    ·exact(((HBF.out.setCell ler _).setCell ler _).setCell ler _).setCell ler _
    ·rw[HP.out]
     show _ = Ending.returned (.tuple #[.slice none 0 0,faV _])
     rw[HPV.out]
theorem Z1r{l:List M.Pk}{x:List UInt8}(hx:∃ p∈l,p.name=x):∃ k,∃ h:k<l.length,M.Zex l x=(k:Int)/\l[k].name=x:=by
 obtain⟨p,hp,e⟩:=hx
 cases hf:l.findIdx? (fun p=>p.name == x) with
 | none=>
  have:=List.findIdx?_eq_none_iff.1 hf p hp
  simp[e] at this
 | some k=>
  obtain⟨h1,h2,_⟩:=List.findIdx?_eq_some_iff_getElem.1 hf
  refine⟨k,h1,?_,by simpa using h2⟩
  unfold M.Zex
  rw[hf]
theorem Z7e(lv:Value)(l:List M.Pk)(w:World)(hl:Zbc w lv l)(hln:l.length<=100000)(hs:∀ p∈l,Zbb p)(ha:M.Apart l):
 Calls Tryz.prog 71 #[lv] w fun e w'=>∃ v,e=.returned v/\Zas w' 0 w'.heap.size v l.length (Zaa (M.Za5 l))/\Below w.heap.size w w':=by
 obtain⟨i0,hi0,hz0,hz1,hz2⟩:=info_parts Zco
 obtain⟨al,cl,el⟩:=hl.form
 subst el
 have HL:=hid hl
 have HS:=hid hs
 have HA:=hid ha
 have HTL:Hid ((M.Za5 l).length=l.length):=by show _ = _;unfold M.Za5;rw[List.length_map,(M.Zbh _).length_eq,List.length_map]
 clear hl hs ha
 go_enter Tryz.func71,Tryz.ntmps71
 go_wp2
 go_loopw [3,4,5,6,7,8] (fun ov t _ _ _ _ wr=>∃ (m:Nat) (L:ByteArray) (out:List (List UInt8)),t=.string L/\m<=l.length/\Below w.heap.size w wr/\wr.ownsRow w.heap.size 9 1 ov m (Zaa out)/\Hid (out=(M.Za5 l).take m)/\Hid (L.data.toList=M.lastOf (M.Zdc (l.map M.Pk.name)) m)) (fun ov _ _ _ _ _ _=>l.length-Z9d ov)
 case atStart=>exact⟨0,⟨#[]⟩,[],rfl,Nat.zero_le _,Below.refl _ _,World.ownsRow_nil _ _ _ _,rfl,rfl⟩
 case round=>
  obtain⟨m,L,out,rfl,hm,hBr,qV,HOut,HLa⟩:=hrel
  obtain⟨ao,co,eo⟩:=Zac qV
  subst eo
  have HOwn:=hid qV
  clear qV
  by_cases hlt:m<l.length
  ·obtain⟨W0,hW0⟩:∃ W,W=wr:=⟨_,rfl⟩
   subst hW0
   go_wp2
   go_loopw [5,6] (fun t i wr=>∃ (T:ByteArray) (j:Nat),t=.string T/\i=.int .i64 j/\j<=l.length/\Below W0.heap.size W0 wr/\Hid (T.data.toList=(l.take j).foldl (fun n p=>if Op.bytesLess L.data.toList p.name=true then M.Zc5 n p.name else n) [])) (fun _ i _=>l.length-(intOf i).toNat)
   case atStart=>exact⟨⟨#[]⟩,0,rfl,rfl,Nat.zero_le _,Below.refl _ _,rfl⟩
   case round=>
    obtain⟨T,j,rfl,rfl,hj,hBj,HT⟩:=hrel
    by_cases hlj:j<l.length
    ·obtain⟨bl,off,rfl,_,hcapl,_,_,_,p0,_⟩:=(HL.out.below (bt hBr hBj)).cells hlj
     obtain⟨Y,hY⟩:∃ Y:ByteArray,Y=⟨l[j].name.toArray⟩:=⟨_,rfl⟩
     rw[<-hY] at p0
     have HY:Hid (Y.data.toList=l[j].name):=by show _ = _;rw[hY]
     clear hY
     by_cases hb:Op.bytesLess L.toList Y.toList=true
     ·have g1:Op.bytesLess Y.toList L.toList=false:=M.Zet hb
      have g2:(Y.toList == L.toList)=false:=by
       rw[beq_eq_false_iff_ne]
       intro e
       rw[e,M.Zbt] at hb
       cases hb
      have cF:=fun wx=>Zhi T Y wx
      have HT2:Hid ((Zcu T Y).data.toList=(l.take (j+1)).foldl (fun n p=>if Op.bytesLess L.data.toList p.name=true then M.Zc5 n p.name else n) []):=by
       show _ = _
       rw[Zd2 _ _ hlj,<-HT.out,if_pos (by rw[<-HY.out,<-Lib.toList_data,<-Lib.toList_data];exact hb),<-HY.out]
       rfl
      generalize Zcu T Y=Z at cF HT2
      clear hb
      go_wp2_with (go_at_call 113;refine(cF _).mono ?_;rintro e w' ⟨rfl,rfl⟩)
      go_roundw
      case rel=>exact⟨Z,j+1,rfl,by go_num,by omega,hBj,HT2⟩
      case measure=>simp[intOf];omega
     ·replace hb:Op.bytesLess L.toList Y.toList=false:=by simpa using hb
      have HT2:Hid (T.data.toList=(l.take (j+1)).foldl (fun n p=>if Op.bytesLess L.data.toList p.name=true then M.Zc5 n p.name else n) []):=by
       show _ = _
       rw[Zd2 _ _ hlj,<-HT.out,if_neg (by rw[<-HY.out,<-Lib.toList_data,<-Lib.toList_data,hb];simp)]
      cases g1:Op.bytesLess Y.toList L.toList with
      | true=>
       clear hb
       go_wp2
       go_roundw
       case rel=>exact⟨T,j+1,rfl,by go_num,by omega,hBj,HT2⟩
       case measure=>simp[intOf];omega
      | false=>
       have g2:(Y.toList == L.toList)=true:=by rw[beq_iff_eq];exact M.Zf9 g1 hb
       clear hb
       go_wp2
       go_roundw
       case rel=>exact⟨T,j+1,rfl,by go_num,by omega,hBj,HT2⟩
       case measure=>simp[intOf];omega
    ·have hjj:j=l.length:=by omega
     obtain⟨x,hx1,hx2⟩:=M.Yat HA.out (fun p hp=>(HS.out p hp).name) hlt
     have HTx:Hid (T.data.toList=x):=by
      show _ = _
      have h:=HT.out
      rw[hjj,List.take_length,HLa.out] at h
      rw[<-hx2]
      exact h
     have hmem:∃ p∈l,p.name=x:=by
      have:=(M.Zbh (l.map M.Pk.name)).mem_iff.1 (List.mem_of_getElem? hx1)
      obtain⟨p,hp,e⟩:=List.mem_map.1 this
      exact⟨p,hp,e⟩
     obtain⟨k,hk,hk1,hk2⟩:=Z1r hmem
     have HFi:Hid (Zke l T=(k:Int)):=by show M.Zex _ _ = _;rw[HTx.out];exact hk1
     have HTo:Hid (M.textOf l x=M.Zaz l[k]):=by show _ = _;rw[<-hk2];exact M.Zhb HA.out (List.getElem_mem hk)
     have HX1:=hid hx1
     have hBw:Below w.heap.size w wr:=bt hBr hBj
     have cN:=fun wx (hb:Below wr.heap.size wr wx)=>Zni (.slice al l.length cl) l T wx (HL.out.below (bt hBw hb)) (by omega)
     rw[HFi.out] at cN
     have hrp:=HS.out _ (List.getElem_mem hk)
     clear hjj hx1 hx2 hmem hk1 hk2 HT
     go_wp2_with fail
     refine(cN _ (Below.refl _ _)).mono ?_
     rintro e w3 ⟨rfl,hB3⟩
     have hB3w:Below w.heap.size w w3:=bt hBw hB3
     obtain⟨g,off,rfl,_,hcap,hc⟩:=(HL.out.below hB3w).cells hk
     obtain⟨nv,bv,fv,p0,p1,p2,p3,p4,hpv⟩:=Z0l hc
     have cP:=fun W (hb:Below w3.heap.size w3 W)=>Zvq l[k] _ W (hpv.below hb) hrp.short
     clear hrp hc cN
     obtain⟨nv',bv',fv',e,h1,h2,h3⟩:=hpv
     simp only[Value.agg.injEq,Array.mk.injEq,List.cons.injEq,and_true,true_and] at e
     obtain⟨rfl,rfl,rfl⟩:=e
     obtain⟨an,cn,en⟩:=h1.form
     obtain⟨ab,cb,eb⟩:=h2.form
     obtain⟨ac,cc,ec⟩:=h3.form
     subst en eb ec
     clear h1 h2 h3
     go_wp2_with fail
     refine(cP _ (Below.refl _ _)).mono ?_
     rintro e w4 ⟨S,rfl,hS,hB4⟩
     have HSx:Hid (S.data.toList=M.textOf l x):=by show _ = _;rw[HTo.out];exact hS
     have hB4w:Below w.heap.size w w4:=bt hB3w hB4
     have hown1:=own_below (own_below (own_below HOwn.out hBj) hB3) hB4
     have HOut2:Hid (out++[S.data.toList]=(M.Za5 l).take (m+1)):=by
      show _ = _
      have hml:m<(M.Za5 l).length:=by rw[HTL.out];exact hlt
      rw[HOut.out,List.take_succ_eq_append_getElem hml,HSx.out]
      congr 2
      have e:(M.Za5 l)[m]? = some (M.textOf l x):=by unfold M.Za5;rw[List.getElem?_map,HX1.out];rfl
      rw[List.getElem?_eq_getElem hml] at e
      injection e with e
      exact e.symm
     have HLa2:Hid (T.data.toList=M.lastOf (M.Zdc (l.map M.Pk.name)) (m+1)):=by
      show _ = (((M.Zdc (l.map M.Pk.name))[m]?).getD [])
      rw[HX1.out,HTx.out]
      rfl
     clear cP p0 p1 p2 p3 p4 hS
     go_wp2_with (at_builtin;refine wpList_append_own _ rfl _ _ 43 rfl w.heap.size 9 i0 (.string ⟨#[]⟩) 1 16 Tryz.underlying43 hi0 hz0 hz1 hz2 rfl (by decide) _ _ _ rfl (hown1.alloc _) ⟨w4.heap.size,0,none⟩ 1 1 [.string S] rfl rfl ?c1 ?c2 ?c3 ?c4 ?c5 ?_)
     case c1=>exact Zca _ _ _
     case c2=>intro u hu;simp at hu;subst hu;rfl
     case c3=>unfold maxLen;omega
     case c4=>omega
     case c5=>simp;have:=hB4w.size;omega
     intro v5 w5 hown' hgrow _
     have RB:Below w.heap.size w w5:=(hB4w.alloc hB4w.size _).grown hgrow (by simp;have:=hB4w.size;omega) (fun i hi=>(hown1.lt i hi).1)
     have RO:w5.ownsRow w.heap.size 9 1 v5 (m+1) (Zaa (out++[S.data.toList])):=by
      unfold Zaa
      rw[List.map_append];exact hown'
     obtain⟨a5,c5,e5⟩:=Zac RO
     subst e5
     clear hown' hgrow hown1
     go_wp2
     go_roundw
     case rel=>exact⟨m+1,T,out++[S.data.toList],rfl,by omega,RB,RO,HOut2,HLa2⟩
     case measure=>simp only[Z9d];omega
  ·have hmm:m=l.length:=by omega
   have HE:Hid (out=M.Za5 l):=by show _ = _;rw[HOut.out,hmm,<-HTL.out,List.take_length]
   go_wp2
   go_ret
   refine⟨_,rfl,?_,hBr⟩
   have h:=(Zas.own HOwn.out).wide (Nat.zero_le _) ler
   rw[HE.out,hmm] at h
   rw[hmm]
   exact h
end Go.Proofs.YtgnfknjopafngaaGreatDoor
