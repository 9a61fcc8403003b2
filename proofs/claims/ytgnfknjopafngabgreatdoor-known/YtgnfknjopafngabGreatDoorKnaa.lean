import Derived.Test.YtgnfknjopafngabGreatDoorKnz
set_option maxRecDepth 100000
set_option maxHeartbeats 8000000
namespace Go.Proofs.YtgnfknjopafngabGreatDoor
open Go.RowKit Go.Maps
def KeysAre(m:List KV)(S:List UInt8->Prop):Prop:=∀ x,(lookK m x).isSome=true↔S x
theorem KeysAre.put{m:List KV}{S:List UInt8->Prop}(h:KeysAre m S)(k:List UInt8)(v:Value):KeysAre (putK m k v) (fun x=>S x\/x=k):=fun x=>by
 rw[look_put]
 by_cases e:x=k
 ·rw[if_pos e];simp[e]
 ·rw[if_neg e,h x];simp[e]
theorem KeysAre.congr{m:List KV}{S T:List UInt8->Prop}(h:KeysAre m S)(e:∀ x,S x↔T x):KeysAre m T:=fun x=>(h x).trans (e x)
theorem any1_self(g:List M.Ch)(p:M.Pk):M.any1S g [p]=g.any (fun c=>M.fitsS c p):=by
 unfold M.any1S
 congr 1
 funext c
 simp
theorem fits_name{c:M.Ch}{q:M.Pk}(h:M.fitsS c q=true):c.name=q.name:=by
 unfold M.fitsS at h
 split at h
 ·assumption
 ·cases h
theorem awaited_any(p:M.Pk)(v:Value)(bi ba:Nat)(there fresh:List M.Pk)(w:World)(hv:PkVal w p v)(hi:SetIn w bi there)(hf:SetIn w ba fresh)(hs:ReadP p)(hst:∀ q∈there,ReadP q)(hsf:∀ q∈fresh,ReadP q):
 Calls Tryz.prog 236 #[v,.map (some bi),.map (some ba)] w fun e w'=>∃ ob m,e=.returned (.map (some ob))/\StrMap Tryz.prog 9 w' ob m/\KeysAre m (fun x=>∃ q∈fresh,q.name=x/\M.waitsS p q there=true)/\m.length<=2000000/\Below w.heap.size w w'/\w.heap.size<=ob:=by
 have hmm:=@run_makeMap Tryz.prog
 obtain⟨nv,bv,fv,ev,hN1,hN2,hN3⟩:=hv
 obtain⟨an,cn,en⟩:=hN1.form
 obtain⟨ab,cb,eb⟩:=hN2.form
 obtain⟨ac,cc,ec⟩:=hN3.form
 subst en eb ec
 obtain⟨Y,hY⟩:∃ Y:ByteArray,Y=⟨p.name.toArray⟩:=⟨_,rfl⟩
 obtain⟨V,hV⟩:∃ V:ByteArray,V=⟨p.ver.toArray⟩:=⟨_,rfl⟩
 rw[<-hY,<-hV] at ev
 subst ev
 have HYV:Hid (Y=⟨p.name.toArray⟩/\V=⟨p.ver.toArray⟩):=⟨hY,hV⟩
 generalize hA1:w.alloc (.cells #[.string Y,.string V,.slice an p.needs.length cn,.slice ab p.bars.length cb,.slice ac p.files.length cc] 87)=A1
 generalize hW1:A1.alloc (.map #[] 0)=W1
 have hB1:Below w.heap.size w A1:=by rw[<-hA1];exact(Below.refl _ w).alloc ler _
 have hB2:Below A1.heap.size A1 W1:=by rw[<-hW1];exact(Below.refl _ A1).alloc ler _
 have sA:A1.heap.size=w.heap.size+1:=by rw[<-hA1];simp
 have s1:W1.heap.size=w.heap.size+2:=by rw[<-hW1];simp[sA]
 have HB1:Hid (Below w.heap.size w W1):=bt hB1 hB2
 have HP5:Hid (∀ j u,[Value.string Y,.string V,.slice an p.needs.length cn,.slice ab p.bars.length cb,.slice ac p.files.length cc][j]? = some u->W1.cell? ⟨w.heap.size,j,none⟩=some u):=fun j u hu=>by
  have:A1.cell? ⟨w.heap.size,j,none⟩=some u:=by rw[<-hA1];exact new_at w _ _ j u hu
  exact(hB2.cell (p:=⟨w.heap.size,j,none⟩) (World.block_lt_of_cell? _ _ this)).trans this
 have hm0:StrMap Tryz.prog 9 W1 (w.heap.size+1) []:=by rw[<-hW1,<-sA];exact StrMap.made A1
 have HN:=hid hN1
 have HI:=hid hi
 have HF:=hid hf
 have HS:=hid hs
 have HST:=hid hst
 have HSF:=hid hsf
 have hnn:=hs.short.needn
 have r2:=HP5.out 2 _ rfl
 clear hN1 hN2 hN3 hi hf hs hst hsf hY hV hB1 hB2
 go_enter Tryz.func236,Tryz.ntmps236
 go_wp2
 go_step3
 go_wp2
 go_step3
 go_wp2
 go_loopw [9,11,13,18] (fun _ _ _ i wr=>∃ (n:Nat) (m:List KV),i=.int .i64 n/\n<=p.needs.length/\Below (w.heap.size+1) W1 wr/\w.heap.size+2<=wr.heap.size/\Hid (StrMap Tryz.prog 9 wr (w.heap.size+1) m)/\Hid (KeysAre m (fun x=>∃ q∈fresh,q.name=x/\(p.needs.take n).any (M.waitsG p q there)=true))/\Hid (m.length<=n*1000)) (fun _ _ _ i _=>p.needs.length-(intOf i).toNat)
 case atStart=>exact⟨0,[],rfl,Nat.zero_le _,Below.refl _ _,by omega,hm0,fun x=>by simp[lookK],Nat.le_refl _⟩
 case round=>
  obtain⟨n,m,rfl,hn',hBr,hsz,HM,HK,HL⟩:=hrel
  have hBw:Below w.heap.size w wr:=HB1.out.trans (hBr.mono (by omega))
  by_cases hlt:n<p.needs.length
  ·have hNw:NeedsIn wr 0 wr.heap.size (.slice an p.needs.length cn) p.needs:=(HN.out.keep fun _ _ _ hg'=>belowS hBw hg').wide (Nat.zero_le _) hBw.size
   obtain⟨gn,au,cu,rfl,hgn,hcell,hrow⟩:=hNw.at n hlt
   have hncap:p.needs.length<=cn:=by
    obtain⟨vs,h1,_⟩:=hNw
    obtain⟨_,h0,_⟩|⟨g',cap,e1,e2,_⟩:=h1
    ·omega
    ·cases e1;exact e2
   have hgl:=(HS.out.short.needs _ (List.getElem_mem hlt)).1
   have HGs:Hid (∀ c∈p.needs[n],c.name≠[]/\c.name.length<=8000/\c.ver.length<=8000):=fun c hc=>⟨HS.out.good.needs _ (List.getElem_mem hlt) c hc,((HS.out.short.needs _ (List.getElem_mem hlt)).2 c hc).1,((HS.out.short.needs _ (List.getElem_mem hlt)).2 c hc).2.2⟩
   have HTake:Hid (∀ q,(p.needs.take (n+1)).any (M.waitsG p q there)=((p.needs.take n).any (M.waitsG p q there) || M.waitsG p q there p.needs[n])):=fun q=>by rw[List.take_succ_eq_append_getElem hlt,List.any_append];simp
   generalize p.needs[n]=g at hcell hrow hgl HGs HTake
   have HRw:=hid hrow
   clear hNw hrow
   obtain⟨W2,hW2⟩:∃ W,W=wr:=⟨_,rfl⟩
   subst hW2
   go_wp2
   go_loopw [11,24] (fun _ i wr=>∃ j:Nat,i=.int .i64 j/\j<=g.length/\Below W2.heap.size W2 wr/\Hid (∀ c∈g.take j,M.fitsS c p=false/\(there.any fun q=>M.fitsS c q)=false)) (fun _ i _=>g.length-(intOf i).toNat)
   case atStart=>exact⟨0,rfl,Nat.zero_le _,Below.refl _ _,fun c hc=>by simp at hc⟩
   case round=>
    obtain⟨j,rfl,hj',hBj,HC⟩:=hrel
    by_cases hlj:j<g.length
    ·obtain⟨bg,rfl,hbg,hcapg,hcg⟩:=HRw.out.cellAt (by omega)
     obtain⟨k0,k1,k2⟩:=ch_cell hlj
     have q0:wr.cell? ⟨bg,j*3,none⟩=some (.string ⟨g[j].name.toArray⟩):=(hBj.cell (p:=⟨bg,j*3,none⟩) hbg).trans (hcg _ _ k0)
     have q1:wr.cell? ⟨bg,j*3+1,none⟩=some (.string ⟨g[j].sign.toArray⟩):=(hBj.cell (p:=⟨bg,j*3+1,none⟩) hbg).trans (hcg _ _ k1)
     have q2:wr.cell? ⟨bg,j*3+2,none⟩=some (.string ⟨g[j].ver.toArray⟩):=(hBj.cell (p:=⟨bg,j*3+2,none⟩) hbg).trans (hcg _ _ k2)
     have hsc:=HGs.out _ (List.getElem_mem hlj)
     have hBwr:Below w.heap.size w wr:=bt hBw hBj
     generalize hW3:wr.alloc (.cells #[.string ⟨g[j].name.toArray⟩,.string ⟨g[j].sign.toArray⟩,.string ⟨g[j].ver.toArray⟩] 140)=W3
     have h3:Below wr.heap.size wr W3:=by rw[<-hW3];exact(Below.refl _ wr).alloc ler _
     have HC3:Hid (∀ i u,[Value.string ⟨g[j].name.toArray⟩,.string ⟨g[j].sign.toArray⟩,.string ⟨g[j].ver.toArray⟩][i]? = some u->W3.cell? ⟨wr.heap.size,i,none⟩=some u):=by rw[<-hW3];exact fun i u hu=>new_at wr _ _ i u hu
     have t0:=HC3.out 0 _ rfl
     have t1:=HC3.out 1 _ rfl
     have t2:=HC3.out 2 _ rfl
     have hP3:∀ i u,[Value.string Y,.string V,.slice (some ⟨gn,0,none⟩) p.needs.length cn,.slice ab p.bars.length cb,.slice ac p.files.length cc][i]? = some u->W3.cell? ⟨w.heap.size,i,none⟩=some u:=fun i u hu=>by
      have e1:=HP5.out i u hu
      have e2:=(hBr.cell (p:=⟨w.heap.size,i,none⟩) (by show w.heap.size < _;omega)).trans e1
      exact((bt hBj h3).cell (p:=⟨w.heap.size,i,none⟩) (World.block_lt_of_cell? _ _ e2)).trans e2
     have u0:=hP3 0 _ rfl
     have u1:=hP3 1 _ rfl
     have u2:=hP3 2 _ rfl
     have u3:=hP3 3 _ rfl
     have u4:=hP3 4 _ rfl
     have sz:∀ q:List UInt8,(ByteArray.mk q.toArray).size=q.length:=fun q=>by rw[<-len_data]
     have cA:∀ wx,Calls Tryz.prog 241 #[.agg #[.string ⟨g[j].name.toArray⟩,.string ⟨g[j].sign.toArray⟩,.string ⟨g[j].ver.toArray⟩],.agg #[.string Y,.string V,.slice (some ⟨gn,0,none⟩) p.needs.length cn,.slice ab p.bars.length cb,.slice ac p.files.length cc]] wx fun e w'=>e=.returned (.bool (M.fitsS g[j] p))/\Below wx.heap.size wx w':=fun wx=>by
      have:=asksFor_any ⟨g[j].name.toArray⟩ ⟨g[j].sign.toArray⟩ ⟨g[j].ver.toArray⟩ Y V (.slice (some ⟨gn,0,none⟩) p.needs.length cn) (.slice ab p.bars.length cb) (.slice ac p.files.length cc) wx (by rw[sz];omega) (by rw[HYV.out.2,sz];have:=HS.out.short.ver;omega)
      rw[HYV.out.1,HYV.out.2,fitsB_c] at this
      rw[HYV.out.1,HYV.out.2]
      exact this
     have cH:=fun wx (hb:Below w.heap.size w wx)=>has_any bi there g[j] wx (HI.out.below hb) (fun q hq=>(HST.out q hq).smallQ.1) hsc.1 (by omega) (by omega)
     have H3:=hid h3
     clear hcg k0 k1 k2 hsc h3 hP3 sz
     go_wp2_with fail
     refine(cA _).mono ?_
     rintro e w4 ⟨rfl,hB4⟩
     have hB34:Below wr.heap.size wr w4:=bt H3.out hB4
     have y0:=(hB4.cell (p:=⟨wr.heap.size,0,none⟩) (World.block_lt_of_cell? _ _ t0)).trans t0
     have y1:=(hB4.cell (p:=⟨wr.heap.size,1,none⟩) (World.block_lt_of_cell? _ _ t1)).trans t1
     have y2:=(hB4.cell (p:=⟨wr.heap.size,2,none⟩) (World.block_lt_of_cell? _ _ t2)).trans t2
     clear cA hB4 t0 t1 t2 u0 u1 u2 u3 u4
     have hszw:∀ W,Below W2.heap.size W2 W->Below (w.heap.size+1) W1 W/\w.heap.size+2<=W.heap.size:=fun W hb=>⟨hBr.trans (hb.mono (by omega)),by have:=hb.size;omega⟩
     have HLn:Hid (m.length<=(n+1)*1000):=by show _<=_;have:=HL.out;omega
     cases hb1:M.fitsS g[j] p with
     | true=>
      have hW:∀ q,M.waitsG p q there g=false:=fun q=>by
       unfold M.waitsG
       rw[any1_self g p,List.any_eq_true.2 ⟨_,List.getElem_mem hlj,hb1⟩]
       simp
      have HK2:Hid (KeysAre m (fun x=>∃ q∈fresh,q.name=x/\(p.needs.take (n+1)).any (M.waitsG p q there)=true)):=HK.out.congr (fun x=>exists_congr (fun q=>and_congr Iff.rfl (and_congr Iff.rfl (by rw[HTake.out,hW,Bool.or_false]))))
      obtain⟨hx1,hx2⟩:=hszw w4 (bt hBj hB34)
      have HM4:Hid (StrMap Tryz.prog 9 w4 (w.heap.size+1) m):=HM.out.below (bt hBj hB34) HM.out.lt
      clear hb1 hW cH
      go_wp2
      go_roundw
      case rel=>exact⟨n+1,m,by go_num,by omega,hx1,hx2,HM4,HK2,HLn⟩
      case measure=>simp[intOf];omega
     | false=>
      go_wp2_with fail
      refine(cH _ (bt hBwr hB34)).mono ?_
      rintro e w5 ⟨rfl,hB5⟩
      have hB35:Below W2.heap.size W2 w5:=bt hBj (bt hB34 hB5)
      clear cH hB5 y0 y1 y2
      cases hb2:(there.any fun q=>M.fitsS g[j] q) with
      | true=>
       have hW:∀ q,M.waitsG p q there g=false:=fun q=>by
        unfold M.waitsG
        have:M.any1S g there=true:=List.any_eq_true.2 ⟨_,List.getElem_mem hlj,hb2⟩
        rw[this]
        simp
       have HK2:Hid (KeysAre m (fun x=>∃ q∈fresh,q.name=x/\(p.needs.take (n+1)).any (M.waitsG p q there)=true)):=HK.out.congr (fun x=>exists_congr (fun q=>and_congr Iff.rfl (and_congr Iff.rfl (by rw[HTake.out,hW,Bool.or_false]))))
       obtain⟨hx1,hx2⟩:=hszw w5 hB35
       have HM5:Hid (StrMap Tryz.prog 9 w5 (w.heap.size+1) m):=HM.out.below hB35 HM.out.lt
       clear hb1 hb2 hW
       go_wp2
       go_roundw
       case rel=>exact⟨n+1,m,by go_num,by omega,hx1,hx2,HM5,HK2,HLn⟩
       case measure=>simp[intOf];omega
      | false=>
       have HC2:Hid (∀ c∈g.take (j+1),M.fitsS c p=false/\(there.any fun q=>M.fitsS c q)=false):=fun c hc=>by
        rw[List.take_succ_eq_append_getElem hlj] at hc
        rcases List.mem_append.1 hc with hc|hc
        ·exact HC.out c hc
        ·simp at hc
         subst hc
         exact⟨hb1,hb2⟩
       clear hb1 hb2
       go_wp2
       go_roundw
       case rel=>exact⟨j+1,by go_num,by omega,hB35,HC2⟩
       case measure=>simp[intOf];omega
    ·have hjj:j=g.length:=by omega
     have hW:Hid (∀ q,M.waitsG p q there g=g.any (fun c=>M.fitsS c q)):=fun q=>by
      unfold M.waitsG
      have e1:M.any1S g there=false:=by
       unfold M.any1S
       rw[List.any_eq_false]
       intro c hc
       rw[(HC.out c (by rw[hjj,List.take_length];exact hc)).2]
       simp
      have e2:M.any1S g [p]=false:=by
       rw[any1_self,List.any_eq_false]
       intro c hc
       rw[(HC.out c (by rw[hjj,List.take_length];exact hc)).1]
       simp
      rw[e1,e2,any1_self]
      simp
     have HSt:Hid (Stands W2 wr):=Stands.of hBj
     have hBx:Below (w.heap.size+1) W1 wr:=hBr.trans (hBj.mono (by omega))
     have hszx:w.heap.size+2<=wr.heap.size:=by have:=hBj.size;omega
     have HMx:Hid (StrMap Tryz.prog 9 wr (w.heap.size+1) m):=HM.out.below hBj HM.out.lt
     clear hjj HC
     go_wp2
     go_loopw [13,39] (fun _ i wr=>∃ (j:Nat) (m2:List KV),i=.int .i64 j/\j<=g.length/\Below (w.heap.size+1) W1 wr/\w.heap.size+2<=wr.heap.size/\Hid (Stands W2 wr)/\Hid (StrMap Tryz.prog 9 wr (w.heap.size+1) m2)/\Hid (KeysAre m2 (fun x=>(∃ q∈fresh,q.name=x/\(p.needs.take n).any (M.waitsG p q there)=true)\/∃ q∈fresh,q.name=x/\(g.take j).any (fun c=>M.fitsS c q)=true))/\Hid (m2.length<=n*1000+j)) (fun _ i _=>g.length-(intOf i).toNat)
     case atStart=>exact⟨0,m,rfl,Nat.zero_le _,hBx,hszx,HSt,HMx,HK.out.congr (fun x=>by simp),HL⟩
     case round=>
      obtain⟨j,m2,rfl,hj',hBy,hszy,HSy,HMy,HKy,HLy⟩:=hrel
      have hByw:Below w.heap.size w wr:=HB1.out.trans (hBy.mono (by omega))
      by_cases hlj:j<g.length
      ·obtain⟨bg,rfl,hbg,hcapg,hcg⟩:=HRw.out.cellAt (by omega)
       obtain⟨k0,k1,k2⟩:=ch_cell hlj
       obtain⟨X,hX⟩:∃ X:ByteArray,X=⟨g[j].name.toArray⟩:=⟨_,rfl⟩
       have q0:wr.cell? ⟨bg,j*3,none⟩=some (.string X):=by rw[hX];exact HSy.out.cell _ _ _ (hcg _ _ k0)
       have q1:wr.cell? ⟨bg,j*3+1,none⟩=some (.string ⟨g[j].sign.toArray⟩):=HSy.out.cell _ _ _ (hcg _ _ k1)
       have q2:wr.cell? ⟨bg,j*3+2,none⟩=some (.string ⟨g[j].ver.toArray⟩):=HSy.out.cell _ _ _ (hcg _ _ k2)
       have hsc:=HGs.out _ (List.getElem_mem hlj)
       have hXd:X.data.toList=g[j].name:=by rw[hX]
       have hXs:X.size<=maxLen:=by rw[size_of hXd];unfold maxLen;omega
       have HXd:=hid hXd
       have cH:=fun wx (hb:Below w.heap.size w wx)=>has_any ba fresh g[j] wx (HF.out.below hb) (fun q hq=>(HSF.out q hq).smallQ.1) hsc.1 (by omega) (by omega)
       rw[<-hX] at cH
       generalize hW3:wr.alloc (.cells #[.string X,.string ⟨g[j].sign.toArray⟩,.string ⟨g[j].ver.toArray⟩] 140)=W3
       have h3:Below wr.heap.size wr W3:=by rw[<-hW3];exact(Below.refl _ wr).alloc ler _
       have HC3:Hid (∀ i u,[Value.string X,.string ⟨g[j].sign.toArray⟩,.string ⟨g[j].ver.toArray⟩][i]? = some u->W3.cell? ⟨wr.heap.size,i,none⟩=some u):=by rw[<-hW3];exact fun i u hu=>new_at wr _ _ i u hu
       have t0:=HC3.out 0 _ rfl
       have t1:=HC3.out 1 _ rfl
       have t2:=HC3.out 2 _ rfl
       have H3:=hid h3
       clear hcg k0 k1 k2 hsc hX h3 hXd
       go_wp2_with fail
       refine(cH _ (bt hByw H3.out)).mono ?_
       rintro e w5 ⟨rfl,hB5⟩
       have hB35:Below wr.heap.size wr w5:=bt H3.out hB5
       have y0:=(hB5.cell (p:=⟨wr.heap.size,0,none⟩) (World.block_lt_of_cell? _ _ t0)).trans t0
       have hw5:Below w.heap.size w w5:=bt hByw hB35
       have hx1:Below (w.heap.size+1) W1 w5:=hBy.trans (hB35.mono (by omega))
       have hx2:w.heap.size+2<=w5.heap.size:=by have:=hB35.size;omega
       have HM5:Hid (StrMap Tryz.prog 9 w5 (w.heap.size+1) m2):=HMy.out.below hB35 HMy.out.lt
       have HS5:Hid (Stands W2 w5):=HSy.out.trans (Stands.of hB35)
       have HTk:Hid (∀ q,(g.take (j+1)).any (fun c=>M.fitsS c q)=((g.take j).any (fun c=>M.fitsS c q) || M.fitsS g[j] q)):=fun q=>by rw[List.take_succ_eq_append_getElem hlj,List.any_append];simp
       clear cH hB5 t0 t1 t2
       cases hb:(fresh.any fun q=>M.fitsS g[j] q) with
       | true=>
        obtain⟨f,hmf,hvf⟩:=HF.out.below hw5
        obtain⟨Vv,hVv⟩:∃ Vv,(lookK (fresh.map fun p=>(p.name,f p)) X.data.toList).getD zeroPk=Vv:=⟨_,rfl⟩
        have hlk:(Instr.lookup 108 (.map (some ba)) (.string X) false).run Tryz.prog w5=.ok Vv w5:=by
         rw[hmf.look Tryz.underlying9 setMap (zeroPk_run w5) hXs,hVv]
        have hm5:=HM5.out
        have hlen:m2.length<maxLen:=by have:=HLy.out;unfold maxLen;omega
        have HK5:Hid (∀ v,KeysAre (putK m2 X.data.toList v) (fun x=>(∃ q∈fresh,q.name=x/\(p.needs.take n).any (M.waitsG p q there)=true)\/∃ q∈fresh,q.name=x/\(g.take (j+1)).any (fun c=>M.fitsS c q)=true)):=fun v=>(HKy.out.put _ _).congr (fun x=>by
         constructor
         ·rintro ((h|⟨q,hq,e,h⟩)|e)
          ·exact .inl h
          ·exact .inr ⟨q,hq,e,by rw[HTk.out,h,Bool.true_or]⟩
          ·obtain⟨q,hq,hfit⟩:=List.any_eq_true.1 hb
           exact .inr ⟨q,hq,by rw[e,HXd.out,fits_name hfit],by rw[HTk.out,hfit,Bool.or_true]⟩
         ·rintro (h|⟨q,hq,e,h⟩)
          ·exact .inl (.inl h)
          ·rw[HTk.out,Bool.or_eq_true] at h
           rcases h with h|h
           ·exact .inl (.inr ⟨q,hq,e,h⟩)
           ·exact .inr (by rw[HXd.out,fits_name h,e]))
        clear hmf hvf hVv hb
        go_wp2_with (first|(at_mapUpdate;refine wpList_put_str rfl _ _ _ rfl Tryz.underlying9 setMap (w.heap.size+1) m2 rfl hm5 hlen X Vv rfl hXs rfl ?_;intro w6 hm6 hg6;go_frame)|go_in)
        have HM6:=hid hm6
        have HS6:Hid (Stands W2 w6):=HS5.out.trans (Stands.put hm5 hm6 hg6)
        have hx3:Below (w.heap.size+1) W1 w6:=hx1.grown hg6 (by omega) (fun i hi=>by cases hi;exact Nat.le_refl _)
        have hx4:w.heap.size+2<=w6.heap.size:=by have:=hg6.size;omega
        have HL6:Hid ((putK m2 X.data.toList Vv).length<=n*1000+(j+1)):=by
         show _<=_
         unfold putK
         have:=List.length_filter_le (fun q:KV=>q.1 != X.data.toList) m2
         have:=HLy.out
         simp only[List.length_cons]
         omega
        clear hm6 hg6 hm5 hlk
        go_wp2
        go_roundw
        case rel=>exact⟨j+1,_,by go_num,by omega,hx3,hx4,HS6,HM6,HK5.out _,HL6⟩
        case measure=>simp[intOf];omega
       | false=>
        have HK5:Hid (KeysAre m2 (fun x=>(∃ q∈fresh,q.name=x/\(p.needs.take n).any (M.waitsG p q there)=true)\/∃ q∈fresh,q.name=x/\(g.take (j+1)).any (fun c=>M.fitsS c q)=true)):=HKy.out.congr (fun x=>or_congr Iff.rfl (exists_congr (fun q=>by
         constructor
         ·rintro ⟨hq,e,h⟩;exact⟨hq,e,by rw[HTk.out,h,Bool.true_or]⟩
         ·rintro ⟨hq,e,h⟩
          rw[HTk.out,Bool.or_eq_true] at h
          rcases h with h|h
          ·exact⟨hq,e,h⟩
          ·have:=List.any_eq_false.1 hb q hq
           exact absurd h this)))
        have HL6:Hid (m2.length<=n*1000+(j+1)):=by show _<=_;have:=HLy.out;omega
        clear hb
        go_wp2
        go_roundw
        case rel=>exact⟨j+1,m2,by go_num,by omega,hx1,hx2,HS5,HM5,HK5,HL6⟩
        case measure=>simp[intOf];omega
      ·have hjj:j=g.length:=by omega
       have HK6:Hid (KeysAre m2 (fun x=>∃ q∈fresh,q.name=x/\(p.needs.take (n+1)).any (M.waitsG p q there)=true)):=HKy.out.congr (fun x=>by
        rw[hjj,List.take_length]
        constructor
        ·rintro (⟨q,hq,e,h⟩|⟨q,hq,e,h⟩)
         ·exact⟨q,hq,e,by rw[HTake.out,h,Bool.true_or]⟩
         ·exact⟨q,hq,e,by rw[HTake.out,hW.out,h,Bool.or_true]⟩
        ·rintro ⟨q,hq,e,h⟩
         rw[HTake.out,hW.out,Bool.or_eq_true] at h
         rcases h with h|h
         ·exact .inl ⟨q,hq,e,h⟩
         ·exact .inr ⟨q,hq,e,h⟩)
       have HL6:Hid (m2.length<=(n+1)*1000):=by show _<=_;have:=HLy.out;omega
       clear hjj
       go_wp2
       go_roundw
       case rel=>exact⟨n+1,m2,by go_num,by omega,hBy,hszy,HMy,HK6,HL6⟩
       case measure=>simp[intOf];omega
  ·have hnn2:n=p.needs.length:=by omega
   have HKF:Hid (KeysAre m (fun x=>∃ q∈fresh,q.name=x/\M.waitsS p q there=true)):=by
    have h:=HK.out
    rw[hnn2,List.take_length] at h
    exact h
   have HLF:Hid (m.length<=2000000):=by show _<=_;have:=HL.out;omega
   clear hnn2
   go_wp2
   rw[Exit.noGoto_ret]
   go_wp2
   go_ret
   exact⟨_,m,rfl,HM.out,HKF.out,HLF.out,hBw,by omega⟩
theorem rowsMap:Tryz.prog.underlying 278=some (.map 9 41):=by kernel_rfl
theorem zeroRow_run(w:World):(zeroValue 41).run Tryz.prog w=.ok (.slice none 0 0) w:=by rw[Tryz.zeroValue41]
def RowsIn(w:World)(base b:Nat)(B:List UInt8->List (List UInt8))(N:Nat):Prop:=
 ∃ m:List KV,StrMap Tryz.prog 9 w b m/\m.length<=N/\∀ x,(lookK m x=none/\B x=[]) \/
  ∃ v,lookK m x=some v/\B x≠[]/\w.ownsRow base 9 1 v (B x).length (nmCells (B x))/\∀ y v',y≠x->lookK m y=some v'->v'.ownBlock≠v.ownBlock
theorem own_cells{w:World}{B e size n:Nat}{v:Value}{xs:List Value}(h:w.ownsRow B e size v n xs)(hn:0<n):∃ g cap cur,v=.slice (some ⟨g,0,none⟩) n cap/\w.heap[g]? = some (.cells cur e (0,0))/\B<=g/\v.ownBlock=some g:=by
 obtain⟨_,⟨_,h0⟩|⟨g,cap,cur,rfl,hb,hg,_⟩⟩:=h
 ·omega
 ·exact⟨g,cap,cur,rfl,hg,hb,rfl⟩
theorem own_block{w w':World}{B e size n:Nat}{v:Value}{xs:List Value}(h:w.ownsRow B e size v n xs)(hk:∀ g,v.ownBlock=some g->w'.heap[g]? = w.heap[g]?):w'.ownsRow B e size v n xs:=by
 obtain⟨h1,⟨rfl,h0⟩|⟨g,cap,cur,rfl,hb,hg,h2⟩⟩:=h
 ·exact⟨h1,.inl ⟨rfl,h0⟩⟩
 ·exact⟨h1,.inr ⟨g,cap,cur,rfl,hb,(hk g rfl).trans hg,h2⟩⟩
theorem RowsIn.kept{w w':World}{base b k N:Nat}{B:List UInt8->List (List UInt8)}(h:RowsIn w base b B N)(hg:w.grownBy w' (some k))(hkb:k≠b)(hk:∀ cur e fz,w.heap[k]?≠some (.cells cur e fz)):RowsIn w' base b B N:=by
 obtain⟨m,h1,h2,h3⟩:=h
 refine⟨m,h1.kept hg (fun e=>hkb (Option.some.inj e).symm),h2,fun x=>?_⟩
 rcases h3 x with h|⟨v,a1,a2,a3,a4⟩
 ·exact .inl h
 ·refine .inr ⟨v,a1,a2,own_block a3 (fun g hgv=>?_),a4⟩
  obtain⟨g',cap,cur,rfl,hc,_,e⟩:=own_cells a3 (List.length_pos_iff.2 a2)
  rw[e] at hgv
  injection hgv with hgv
  subst hgv
  exact hg.block _ (Array.getElem?_eq_some_iff.1 hc).1 (fun e=>by
   have:=Option.some.inj e
   subst this
   exact hk _ _ _ hc)
theorem RowsIn.below{w w':World}{base b N:Nat}{B:List UInt8->List (List UInt8)}(h:RowsIn w base b B N)(hb:Below w.heap.size w w'):RowsIn w' base b B N:=by
 obtain⟨m,h1,h2,h3⟩:=h
 refine⟨m,h1.below hb h1.lt,h2,fun x=>?_⟩
 rcases h3 x with h|⟨v,a1,a2,a3,a4⟩
 ·exact .inl h
 ·exact .inr ⟨v,a1,a2,own_below a3 hb,a4⟩
theorem map_no_cells{P:Program}{K:TypeId}{w:World}{b:Nat}{l:List KV}(h:StrMap P K w b l):∀ cur e fz,w.heap[b]?≠some (.cells cur e fz):=fun cur e fz hh=>by
 obtain⟨es,c,hb⟩:=h.block?
 rw[hb] at hh
 cases hh
theorem iter_no_cells{P:Program}{K:TypeId}{w:World}{b r cnt:Nat}{l todo:List KV}(h:Ranging P K w b r l todo cnt):∀ cur e fz,w.heap[r]?≠some (.cells cur e fz):=fun cur e fz hh=>by
 obtain⟨_,_,_,⟨_,_,_,_,_,_,_,_,_,hr,_⟩,_⟩:=h
 rw[hr] at hh
 cases hh
def snocAt(B:List UInt8->List (List UInt8))(k n:List UInt8):List UInt8->List (List UInt8):=fun x=>if x=k then B k++[n] else B x
theorem RowsIn.append{w:World}{base b N:Nat}{B:List UInt8->List (List UInt8)}(h:RowsIn w base b B N)(O T:ByteArray)(ty:TypeId)(hO:O.size<=maxLen)(hN:N<1000000000)(hl:(B O.data.toList).length<=1000000000)(hbase:base<=w.heap.size):
 ∃ v v' w1 w2,(Instr.lookup 278 (.map (some b)) (.string O) false).run Tryz.prog w=.ok v w/\(Instr.lookup 278 (.map (some b)) (.string O) false).run Tryz.prog (w.alloc (.cells #[.string T] 9))=.ok v (w.alloc (.cells #[.string T] 9))/\(∃ ao no co,v=.slice ao no co)/\(∃ ao no co,v'=.slice ao no co)/\
  (Builtin.append_ #[41,41] ty #[v,.slice (some ⟨w.heap.size,0,none⟩) 1 1]).run Tryz.prog (w.alloc (.cells #[.string T] 9))=.ok v' w1/\
  (Instr.mapUpdate 278 (.map (some b)) (.string O) v').run Tryz.prog w1=.ok () w2/\
  RowsIn w2 base b (snocAt B O.data.toList T.data.toList) (N+1)/\(∀ k,k<w.heap.size->k≠b->(∀ cur fz,w.heap[k]?≠some (.cells cur 9 fz))->w2.heap[k]? = w.heap[k]?)/\(∀ k,k<base->k≠b->w2.heap[k]? = w.heap[k]?)/\w.heap.size<=w2.heap.size/\w2.os=w.os/\w2.tape=w.tape/\w2.output=w.output/\(∀ k,k<base->w1.heap[k]? = w.heap[k]?):=by
 obtain⟨m,h1,h2,h3⟩:=h
 have hlook:=h1.look Tryz.underlying9 rowsMap (zeroRow_run w) hO
 obtain⟨v,hv,hown,hap⟩:∃ v,(lookK m O.data.toList).getD (.slice none 0 0)=v/\w.ownsRow base 9 1 v (B O.data.toList).length (nmCells (B O.data.toList))/\∀ y v',y≠O.data.toList->lookK m y=some v'->v'.ownBlock≠v.ownBlock:=by
  rcases h3 O.data.toList with ⟨a1,a2⟩|⟨v,a1,a2,a3,a4⟩
  ·refine⟨_,rfl,?_,?_⟩
   ·rw[a1,a2]
    exact⟨rfl,.inl ⟨rfl,rfl⟩⟩
   ·intro y v' hy hv'
    rw[a1]
    rcases h3 y with ⟨c1,_⟩|⟨u,c1,c2,c3,_⟩
    ·rw[c1] at hv';cases hv'
    ·rw[c1] at hv'
     cases hv'
     obtain⟨g,_,_,_,_,_,e⟩:=own_cells c3 (List.length_pos_iff.2 c2)
     rw[e]
     intro hh
     cases hh
  ·exact⟨v,by rw[a1];rfl,a3,a4⟩
 rw[hv] at hlook
 obtain⟨i,hi,e1,e2,e3⟩:=info_parts infoStr
 have hBW:Below w.heap.size w (w.alloc (.cells #[.string T] 9)):=(Below.refl _ _).alloc ler _
 have hnew:(w.alloc (.cells #[.string T] 9)).cell? ⟨w.heap.size,0,none⟩=some (.string T):=by
  unfold World.cell?
  rw[heap_alloc_new]
  rfl
 have hlen:(nmCells (B O.data.toList)).length=(B O.data.toList).length:=by simp[nmCells]
 obtain⟨v',w1,hrun,r1,r2,r3,r4⟩:=run_append_own_at (P:=Tryz.prog) (w.alloc (.cells #[.string T] 9)) base 41 ty 9 i _ 1 16 Tryz.underlying41 hi e1 e2 e3 rfl (by decide) v _ _ (own_below hown hBW)
  ⟨w.heap.size,0,none⟩ 1 1 [.string T] rfl (fun j u hj=>by
   cases j with
   | zero=>cases hj;exact hnew
   | succ j=>cases hj) (fun u hu=>by
   simp only[List.mem_singleton] at hu
   subst hu
   rfl) (by simp only[maxLen];omega) (by omega) (by simp;omega)
 have hold:∀ k,k<w.heap.size->some k≠v.ownBlock->w1.heap[k]? = w.heap[k]?:=fun k hk hne=>(r2.block k (by simp;omega) hne).trans (hBW.block k hk)
 have hvb:∀ k,v.ownBlock=some k->base<=k/\∃ cur,w.heap[k]? = some (.cells cur 9 (0,0)):=by
  intro k hk
  obtain⟨_,⟨rfl,_⟩|⟨g,cap,cur,rfl,hb,hg,_⟩⟩:=hown
  ·cases hk
  ·cases hk
   exact⟨hb,cur,hg⟩
 have hbb:w1.heap[b]? = w.heap[b]?:=hold b h1.lt (fun e=>by
  obtain⟨_,cur,hc⟩:=hvb b e.symm
  exact map_no_cells h1 _ _ _ hc)
 have hm1:StrMap Tryz.prog 9 w1 b m:=h1.block hbb
 obtain⟨w2,hput,hm2,hg2⟩:=hm1.put Tryz.underlying9 rowsMap (by simp only[maxLen];omega) hO v'
 have hnn:0<(B O.data.toList).length+1:=by omega
 obtain⟨g',cap',cur',hv',hc',hb',ho'⟩:=own_cells r1 hnn
 have hne':∀ y u,y≠O.data.toList->lookK m y=some u->u.ownBlock≠v'.ownBlock:=by
  intro y u hy hu
  rcases r4 with e|e
  ·rw[e]
   exact hap y u hy hu
  ·rw[e]
   rcases h3 y with ⟨c1,_⟩|⟨u',c1,c2,c3,_⟩
   ·rw[c1] at hu;cases hu
   ·rw[c1] at hu
    cases hu
    obtain⟨g,_,_,_,hg,_,eg⟩:=own_cells c3 (List.length_pos_iff.2 c2)
    rw[eg]
    intro hh
    have:=Option.some.inj hh
    have h5:=(Array.getElem?_eq_some_iff.1 hg).1
    simp at this
    omega
 have hpl:(putK m O.data.toList v').length<=N+1:=by
  unfold putK
  have:=List.length_filter_le (fun p:KV=>p.1 != O.data.toList) m
  simp only[List.length_cons]
  omega
 have hlook2:=(h1.below hBW h1.lt).look Tryz.underlying9 rowsMap (zeroRow_run _) hO
 rw[hv] at hlook2
 refine⟨v,v',w1,w2,hlook,hlook2,?_,⟨_,_,_,hv'⟩,hrun,hput,⟨_,hm2,hpl,fun x=>?_⟩,?_,?_,?_,?_,?_,?_,fun k hk=>hold k (by omega) (fun e=>by have:=(hvb k e.symm).1;omega)⟩
 ·obtain⟨_,⟨rfl,_⟩|⟨g,cap,cur,rfl,_⟩⟩:=hown
  ·exact⟨_,_,_,rfl⟩
  ·exact⟨_,_,_,rfl⟩
 ·by_cases hx:x=O.data.toList
  ·subst hx
   refine .inr ⟨v',?_,?_,?_,?_⟩
   ·rw[look_put,if_pos rfl]
   ·unfold snocAt
    rw[if_pos rfl]
    simp
   ·have:snocAt B O.data.toList T.data.toList O.data.toList=B O.data.toList++[T.data.toList]:=by unfold snocAt;rw[if_pos rfl]
    rw[this,List.length_append,List.length_singleton]
    have e:nmCells (B O.data.toList++[T.data.toList])=nmCells (B O.data.toList)++[.string T]:=by simp[nmCells,strV]
    rw[e]
    refine own_block r1 (fun g hg=>hg2.block g ?_ ?_)
    ·rw[ho'] at hg;cases hg
     exact(Array.getElem?_eq_some_iff.1 hc').1
    ·rw[ho'] at hg;cases hg
     intro hh
     have:=Option.some.inj hh
     subst this
     exact map_no_cells hm1 _ _ _ hc'
   ·intro y u hy hu
    rw[look_put,if_neg hy] at hu
    exact hne' y u hy hu
  ·have hs:snocAt B O.data.toList T.data.toList x=B x:=by unfold snocAt;rw[if_neg hx]
   rw[hs,look_put,if_neg hx]
   rcases h3 x with h|⟨u,a1,a2,a3,a4⟩
   ·exact .inl h
   ·refine .inr ⟨u,a1,a2,own_block a3 (fun g hg=>?_),?_⟩
    ·obtain⟨g2,_,_,_,hc,_,eg⟩:=own_cells a3 (List.length_pos_iff.2 a2)
     obtain rfl:g2=g:=Option.some.inj (eg.symm.trans hg)
     have hlt:=(Array.getElem?_eq_some_iff.1 hc).1
     have hk:w1.heap[g2]? = w.heap[g2]?:=hold g2 hlt (fun e=>hap x u hx a1 (by rw[eg,e]))
     refine(hg2.block g2 ?_ ?_).trans hk
     ·have:=r2.size
      simp at this
      omega
     ·intro hh
      have:=Option.some.inj hh
      subst this
      exact map_no_cells h1 _ _ _ hc
    ·intro y u' hy hu'
     rw[look_put] at hu'
     by_cases hyk:y=O.data.toList
     ·rw[if_pos hyk] at hu'
      cases hu'
      exact fun e=>hne' x u hx a1 e.symm
     ·rw[if_neg hyk] at hu'
      exact a4 y u' hy hu'
 ·intro k hk hkb hno
  refine(hg2.block k ?_ (fun e=>hkb (Option.some.inj e))).trans (hold k hk (fun e=>?_))
  ·have:=r2.size
   simp at this
   omega
  ·obtain⟨_,cur,hc⟩:=hvb k e.symm
   exact hno _ _ hc
 ·intro k hk hkb
  refine(hg2.block k ?_ (fun e=>hkb (Option.some.inj e))).trans (hold k (by omega) (fun e=>?_))
  ·have:=r2.size
   simp at this
   omega
  ·have:=(hvb k e.symm).1
   omega
 ·have:=r2.size
  have:=hg2.size
  simp at *
  omega
 ·rw[hg2.os,r2.os];rfl
 ·rw[hg2.tape,r2.tape];rfl
 ·rw[hg2.output,r2.output];rfl
end Go.Proofs.YtgnfknjopafngabGreatDoor
