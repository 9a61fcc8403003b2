import Derived.Test.YtgnfknjopafngabGreatDoorKam
import Derived.ArgAppend
set_option maxRecDepth 100000
set_option maxHeartbeats 8000000
namespace Go.Proofs.YtgnfknjopafngabGreatDoor
open Go.RowKit
theorem Zzy{w:World}{g o:Nat}{p:M.Pk}(h:Zgl w g o p):∃ af cf,w.cell? ⟨g,o+4,none⟩=some (.slice af p.files.length cf)/\Zas w 0 w.heap.size (.slice af p.files.length cf) p.files.length (Zaf p.files)/\g<w.heap.size:=by
 obtain⟨nv,bv,fv,h0,h1,h2,h3,h4,h5,h6,h7⟩:=h
 obtain⟨af,cf,rfl⟩:=h7.form
 exact⟨af,cf,h4,h7,World.block_lt_of_cell? _ _ h0⟩
theorem Z6t(lv:Value)(l:List M.Pk)(w:World)(hl:Zbc w lv l)(hln:l.length<=1000000)(hs:∀ p∈l,Zdk p)(hfs:∀ p∈l,∀ f∈p.files,f.path.length<=100000):
 Calls Tryz.prog 98 #[lv] w fun e w'=>∃ T:ByteArray,e=.returned (.string T)/\T.data.toList=M.Za4 l/\Below w.heap.size w w':=by
 obtain⟨al,cl,el⟩:=hl.form
 subst el
 have HL:=hid hl
 have HS:=hid hs
 have HFS:=hid hfs
 clear hl hs hfs
 go_enter Tryz.func98,Tryz.ntmps98
 go_wp2
 go_loopw [3,4,5,6,7,8,9,10] (fun t i _ _ _ _ _ _ wr=>∃ (T:ByteArray) (n:Nat),t=.string T/\i=.int .i64 n/\n<=l.length/\Below w.heap.size w wr/\Hid (T.data.toList=(List.range n).foldl (M.clI l) [])) (fun _ i _ _ _ _ _ _ _=>l.length-(intOf i).toNat)
 case atStart=>exact⟨⟨#[]⟩,0,rfl,rfl,Nat.zero_le _,Below.refl _ _,rfl⟩
 case round=>
  obtain⟨T,n,rfl,rfl,hn,hBr,HR⟩:=hrel
  by_cases hlt:n<l.length
  ·have hfn:=(HS.out _ (List.getElem_mem hlt)).filen
   obtain⟨bl,off,rfl,_,hcapl,hpc⟩:=HL.out.cells hlt
   have HC:Hid (∀ j (hj:j<l.length),Zgl w bl (off+j*5) l[j]):=fun j hj=>by
    obtain⟨_,_,e,_,_,h⟩:=HL.out.cells hj
    cases e
    exact h
   obtain⟨ai,ci,qi,ri,hbl⟩:=Zzy hpc
   have HQI:=hid qi
   have HRI:=hid ri
   clear qi ri hpc
   obtain⟨W0,hW0⟩:∃ W,W=wr:=⟨_,rfl⟩
   subst hW0
   go_wp2
   go_loopw [3,5,6,7,8,9,10] (fun t j _ _ _ _ _ wr=>∃ (X:ByteArray) (k:Nat),t=.string X/\j=.int .i64 k/\k<=l.length/\Below w.heap.size w wr/\Hid (X.data.toList=(List.range k).foldl (M.clK l n l[n]) T.data.toList)) (fun _ j _ _ _ _ _ _=>l.length-(intOf j).toNat)
   case atStart=>exact⟨T,0,rfl,rfl,Nat.zero_le _,hBr,rfl⟩
   case round=>
    obtain⟨X,k,rfl,rfl,hk,hBk,HX⟩:=hrel
    by_cases hlk:k<l.length
    ·have hfk:=(HS.out _ (List.getElem_mem hlk)).filen
     obtain⟨ak,ck,qk,rk,_⟩:=Zzy (HC.out k hlk)
     have HQK:=hid qk
     have HRK:=hid rk
     clear qk rk
     obtain⟨W1,hW1⟩:∃ W,W=wr:=⟨_,rfl⟩
     subst hW1
     go_wp2
     go_loopw [3,6,7,8,9,10] (fun t j _ _ _ _ wr=>∃ (Y:ByteArray) (a:Nat),t=.string Y/\j=.int .i64 a/\a<=l[n].files.length/\Below w.heap.size w wr/\Hid (Y.data.toList=(l[n].files.take a).foldl (M.clA n k l[k].files) X.data.toList)) (fun _ j _ _ _ _ _=>l[n].files.length-(intOf j).toNat)
     case atStart=>exact⟨X,0,rfl,rfl,Nat.zero_le _,hBk,rfl⟩
     case round=>
      obtain⟨Y,a,rfl,rfl,ha,hBa,HY⟩:=hrel
      have ci4:wr.cell? ⟨bl,off+n*5+4,none⟩=some (.slice ai l[n].files.length ci):=(hBa.cell (p:=⟨bl,off+n*5+4,none⟩) hbl).trans HQI.out
      by_cases hla:a<l[n].files.length
      ·obtain⟨W2,hW2⟩:∃ W,W=wr:=⟨_,rfl⟩
       subst hW2
       go_wp2
       go_loopw [3,7,8,9,10] (fun t j _ _ _ wr=>∃ (Z:ByteArray) (b:Nat),t=.string Z/\j=.int .i64 b/\b<=l[k].files.length/\Below w.heap.size w wr/\Hid (Z.data.toList=(l[k].files.take b).foldl (M.clB n k l[n].files[a].path) Y.data.toList)) (fun _ j _ _ _ _=>l[k].files.length-(intOf j).toNat)
       case atStart=>exact⟨Y,0,rfl,rfl,Nat.zero_le _,hBa,rfl⟩
       case round=>
        obtain⟨Z,b,rfl,rfl,hb,hBb,HZ⟩:=hrel
        have ck4:wr.cell? ⟨bl,off+k*5+4,none⟩=some (.slice ak l[k].files.length ck):=(hBb.cell (p:=⟨bl,off+k*5+4,none⟩) hbl).trans HQK.out
        have ci4':wr.cell? ⟨bl,off+n*5+4,none⟩=some (.slice ai l[n].files.length ci):=(hBb.cell (p:=⟨bl,off+n*5+4,none⟩) hbl).trans HQI.out
        by_cases hlb:b<l[k].files.length
        ·obtain⟨gi,rfl,hgi,hcapi,hci⟩:=HRI.out.cellAt (by omega)
         obtain⟨gk,rfl,hgk,hcapk,hck⟩:=HRK.out.cellAt (by omega)
         have k0:=Zgp hla
         have k1:=Zgp hlb
         rw[Nat.mul_comm] at k0 k1
         obtain⟨P,hP⟩:∃ P:ByteArray,P=⟨l[n].files[a].path.toArray⟩:=⟨_,rfl⟩
         obtain⟨Q,hQ⟩:∃ Q:ByteArray,Q=⟨l[k].files[b].path.toArray⟩:=⟨_,rfl⟩
         have cp:wr.cell? ⟨gi,a*2,none⟩=some (.string P):=by rw[hP];exact(hBb.cell (p:=⟨gi,a*2,none⟩) hgi).trans (hci _ _ k0)
         have cq:wr.cell? ⟨gk,b*2,none⟩=some (.string Q):=by rw[hQ];exact(hBb.cell (p:=⟨gk,b*2,none⟩) hgk).trans (hck _ _ k1)
         have HP:Hid (P.data.toList=l[n].files[a].path):=by show _ = _;rw[hP]
         have HQ:Hid (Q.data.toList=l[k].files[b].path):=by show _ = _;rw[hQ]
         have hPs:P.size<=1000000:=by
          have h1:=HFS.out _ (List.getElem_mem hlt) _ (List.getElem_mem hla)
          have h2:=Zaq P
          rw[HP.out] at h2
          omega
         have cO:=fun wx=>Zsn P Q wx hPs
         have cF:=fun wx=>Zhi Z P wx
         have HG:Hid (∀ m,M.clB n k l[n].files[a].path m l[k].files[b]=if Zho P Q=true\/(P.data.toList=Q.data.toList/\n≠k) then M.Zc5 m l[n].files[a].path else m):=fun m=>by
          unfold M.clB Zho
          rw[HP.out,HQ.out]
         clear hci hck k0 k1 hP hQ
         generalize Zho P Q=ov at cO HG
         cases ov
         ·by_cases hpq:(P.toList == Q.toList)=true
          ·by_cases hnk:n=k
           ·have hkb:((n:Int) != k)=false:=by simp;omega
            have HNK:=hid hnk
            have HZ2:Hid (Z.data.toList=(l[k].files.take (b+1)).foldl (M.clB n k l[n].files[a].path) Y.data.toList):=by
             show _ = _
             rw[Zd2 _ _ hlb,<-HZ.out,HG.out,if_neg (by rintro (h|⟨_,h⟩);exact absurd h (by decide);exact h HNK.out)]
            clear hnk
            go_wp2_with (first|(go_at_call 145;refine(cO _).mono ?_;rintro e w' ⟨rfl,rfl⟩))
            go_roundw
            case rel=>exact⟨Z,b+1,rfl,by go_num,by omega,hBb,HZ2⟩
            case measure=>simp[intOf];omega
           ·have hkb:((n:Int) != k)=true:=by simp;omega
            have HZ2:Hid ((Zcu Z P).data.toList=(l[k].files.take (b+1)).foldl (M.clB n k l[n].files[a].path) Y.data.toList):=by
             show _ = _
             rw[Zd2 _ _ hlb,<-HZ.out,HG.out,if_pos (.inr ⟨(by rw[Lib.toList_data,Lib.toList_data,beq_iff_eq] at hpq;exact hpq),hnk⟩),<-HP.out]
             rfl
            generalize Zcu Z P=F at cF HZ2
            clear hnk
            go_wp2_with (first|(go_at_call 145;refine(cO _).mono ?_;rintro e w' ⟨rfl,rfl⟩)|(go_at_call 100;refine(cF _).mono ?_;rintro e w' ⟨rfl,rfl⟩))
            go_roundw
            case rel=>exact⟨F,b+1,rfl,by go_num,by omega,hBb,HZ2⟩
            case measure=>simp[intOf];omega
          ·replace hpq:(P.toList == Q.toList)=false:=by simpa using hpq
           have HZ2:Hid (Z.data.toList=(l[k].files.take (b+1)).foldl (M.clB n k l[n].files[a].path) Y.data.toList):=by
            show _ = _
            rw[Zd2 _ _ hlb,<-HZ.out,HG.out,if_neg (by rintro (h|⟨h,_⟩);exact absurd h (by decide);exact(show P.data.toList≠Q.data.toList from by rw[Lib.toList_data,Lib.toList_data,beq_eq_false_iff_ne] at hpq;exact hpq) h)]
           skip
           go_wp2_with (first|(go_at_call 145;refine(cO _).mono ?_;rintro e w' ⟨rfl,rfl⟩))
           go_roundw
           case rel=>exact⟨Z,b+1,rfl,by go_num,by omega,hBb,HZ2⟩
           case measure=>simp[intOf];omega
         ·skip
          have HZ2:Hid ((Zcu Z P).data.toList=(l[k].files.take (b+1)).foldl (M.clB n k l[n].files[a].path) Y.data.toList):=by
           show _ = _
           rw[Zd2 _ _ hlb,<-HZ.out,HG.out,if_pos (.inl rfl),<-HP.out]
           rfl
          generalize Zcu Z P=F at cF HZ2
          skip
          go_wp2_with (first|(go_at_call 145;refine(cO _).mono ?_;rintro e w' ⟨rfl,rfl⟩)|(go_at_call 100;refine(cF _).mono ?_;rintro e w' ⟨rfl,rfl⟩))
          go_roundw
          case rel=>exact⟨F,b+1,rfl,by go_num,by omega,hBb,HZ2⟩
          case measure=>simp[intOf];omega
        ·have hbb:b=l[k].files.length:=by omega
         have HY2:Hid (Z.data.toList=(l[n].files.take (a+1)).foldl (M.clA n k l[k].files) X.data.toList):=by
          have h:=HZ.out
          rw[hbb,List.take_length] at h
          show _ = _
          rw[Zd2 _ _ hla,<-HY.out,h]
          rfl
         clear hbb HZ
         go_wp2
         go_roundw
         case rel=>exact⟨Z,a+1,rfl,by go_num,by omega,hBb,HY2⟩
         case measure=>simp[intOf];omega
      ·have haa:a=l[n].files.length:=by omega
       have HX2:Hid (Y.data.toList=(List.range (k+1)).foldl (M.clK l n l[n]) T.data.toList):=by
        have h:=HY.out
        rw[haa,List.take_length] at h
        show _ = _
        rw[Zdb,<-HX.out,h]
        unfold M.clK
        rw[List.getElem?_eq_getElem hlk]
       clear haa HY
       go_wp2
       go_roundw
       case rel=>exact⟨Y,k+1,rfl,by go_num,by omega,hBa,HX2⟩
       case measure=>simp[intOf];omega
    ·have hkk:k=l.length:=by omega
     have HR2:Hid (X.data.toList=(List.range (n+1)).foldl (M.clI l) []):=by
      have h:=HX.out
      rw[hkk] at h
      show _ = _
      rw[Zdb,<-HR.out,h]
      unfold M.clI
      rw[List.getElem?_eq_getElem hlt]
     clear hkk HX
     go_wp2
     go_roundw
     case rel=>exact⟨X,n+1,rfl,by go_num,by omega,hBk,HR2⟩
     case measure=>simp[intOf];omega
  ·have hnn:n=l.length:=by omega
   have HE:Hid (T.data.toList=M.Za4 l):=by
    have h:=HR.out
    rw[hnn] at h
    exact h
   go_wp2
   go_ret
   exact⟨_,rfl,HE.out,hBr⟩
theorem Zc6.cell{w:World}{p:M.Pk}{a b nv bv fv:Value}(h:Zc6 w p (.agg #[a,b,nv,bv,fv]))(t:TypeId):
 Zgl (w.alloc (.cells #[a,b,nv,bv,fv] t)) w.heap.size 0 p:=by
 obtain⟨nv',bv',fv',e,h5,h6,h7⟩:=h
 cases e
 have hB:Below w.heap.size w (w.alloc (.cells #[.string ⟨p.name.toArray⟩,.string ⟨p.ver.toArray⟩,nv,bv,fv] t)):=(Below.refl _ w).alloc ler _
 obtain⟨_,_,hcl,_⟩:=Zme w [.string ⟨p.name.toArray⟩,.string ⟨p.ver.toArray⟩,nv,bv,fv] t 0
 have kk:∀ g' o',0<=g'->g'<w.heap.size->Zdr w (w.alloc (.cells #[.string ⟨p.name.toArray⟩,.string ⟨p.ver.toArray⟩,nv,bv,fv] t)) g' o':=fun g' o' _ hg'=>Zcb hB hg'
 exact⟨nv,bv,fv,hcl 0 _ rfl,hcl 1 _ rfl,hcl 2 _ rfl,hcl 3 _ rfl,hcl 4 _ rfl,(h5.keep kk).wide (Nat.zero_le _) hB.size,(h6.keep kk).wide (Nat.zero_le _) hB.size,(h7.keep kk).wide (Nat.zero_le _) hB.size⟩
theorem Zc6.below{w w':World}{p:M.Pk}{v:Value}(h:Zc6 w p v)(hb:Below w.heap.size w w'):Zc6 w' p v:=by
 obtain⟨nv,bv,fv,e,h5,h6,h7⟩:=h
 have kk:∀ g' o',0<=g'->g'<w.heap.size->Zdr w w' g' o':=fun g' o' _ hg'=>Zcb hb hg'
 exact⟨nv,bv,fv,e,(h5.keep kk).wide (Nat.zero_le _) hb.size,(h6.keep kk).wide (Nat.zero_le _) hb.size,(h7.keep kk).wide (Nat.zero_le _) hb.size⟩
theorem Z6d(p q:M.Pk)(pv qv tv:Value)(l:List M.Pk)(w:World)(hp:Zc6 w p pv)(hq:Zc6 w q qv)(hl:Zbc w tv l)(hln:l.length<=1000000)(hsp:Zdk p)(hsq:Zdk q)(hs:∀ p∈l,Zdk p):
 Calls Tryz.prog 146 #[pv,qv,tv] w fun e w'=>e=.returned (.bool (M.Zck p q l))/\Below w.heap.size w w':=by
 obtain⟨al,cl,el⟩:=hl.form
 subst el
 have hp0:=hp
 have hq0:=hq
 obtain⟨nv,bv,fv,rfl,hN,_,_⟩:=hp
 obtain⟨nv',bv',fv',rfl,_,_,_⟩:=hq
 obtain⟨an,cn,en⟩:=hN.form
 subst en
 obtain⟨X,hX⟩:∃ X:ByteArray,X=⟨p.name.toArray⟩:=⟨_,rfl⟩
 obtain⟨Y,hY⟩:∃ X:ByteArray,X=⟨p.ver.toArray⟩:=⟨_,rfl⟩
 obtain⟨X',hX'⟩:∃ X:ByteArray,X=⟨q.name.toArray⟩:=⟨_,rfl⟩
 obtain⟨Y',hY'⟩:∃ X:ByteArray,X=⟨q.ver.toArray⟩:=⟨_,rfl⟩
 rw[<-hX,<-hY] at hp0 ⊢
 rw[<-hX',<-hY'] at hq0 ⊢
 clear hX hY hX' hY'
 have hB1:=(Below.refl _ w).alloc ler (.cells #[.string X,.string Y,.slice an p.needs.length cn,bv,fv] 181)
 have hB2:=hB1.alloc (hB1.size) (.cells #[.string X',.string Y',nv',bv',fv'] 181)
 obtain⟨_,hz,hcl,_⟩:=Zme w [.string X,.string Y,.slice an p.needs.length cn,bv,fv] 181 0
 obtain⟨hB3,hz2,hcl2,_⟩:=Zme (w.alloc (.cells #[.string X,.string Y,.slice an p.needs.length cn,bv,fv] 181)) [.string X',.string Y',nv',bv',fv'] 181 0
 replace hz:(w.alloc (.cells #[.string X,.string Y,.slice an p.needs.length cn,bv,fv] 181)).heap.size=w.heap.size+1:=hz
 obtain⟨W2,hW2⟩:∃ W,W=(w.alloc (.cells #[.string X,.string Y,.slice an p.needs.length cn,bv,fv] 181)).alloc (.cells #[.string X',.string Y',nv',bv',fv'] 181):=⟨_,rfl⟩
 replace hB3:Below (w.alloc (.cells #[.string X,.string Y,.slice an p.needs.length cn,bv,fv] 181)).heap.size (w.alloc (.cells #[.string X,.string Y,.slice an p.needs.length cn,bv,fv] 181)) W2:=by rw[hW2];exact hB3
 rw[hz] at hB3
 replace hz2:W2.heap.size=w.heap.size+2:=by rw[hW2];exact hz2.trans (by rw[hz])
 replace hB2:Below w.heap.size w W2:=by rw[hW2];exact hB2
 have HP:Hid (∀ W,Below W2.heap.size W2 W->∀ j u,[Value.string X,.string Y,.slice an p.needs.length cn,bv,fv][j]? = some u->W.cell? ⟨w.heap.size,j,none⟩=some u):=fun W hb j u hu=>
  (hb.cell (p:=⟨w.heap.size,j,none⟩) (by rw[hz2];show w.heap.size < _;omega)).trans ((hB3.cell (p:=⟨w.heap.size,j,none⟩) (Nat.lt_succ_self _)).trans (hcl j u hu))
 have HQ:Hid (∀ W,Below W2.heap.size W2 W->∀ j u,[Value.string X',.string Y',nv',bv',fv'][j]? = some u->W.cell? ⟨w.heap.size+1,j,none⟩=some u):=fun W hb j u hu=>by
  have h1:=hcl2 j u hu
  rw[hz] at h1
  refine(hb.cell (p:=⟨w.heap.size+1,j,none⟩) (by rw[hz2];show w.heap.size+1 < _;omega)).trans ?_
  rw[hW2]
  exact h1
 have HL:=hid hl
 have HS:=hid hs
 have HP0:=hid hp0
 have HQ0:=hid hq0
 have HN:=hid hN
 have hnn:=hsp.needn
 have HW:=hid hW2
 clear hl hs hp0 hq0 hcl hcl2 hB3 hB1 hz hN hW2
 go_enter Tryz.func146,Tryz.ntmps146
 go_wp2
 rw[<-HW.out]
 clear HW
 go_loopw [7,8,9,10,11] (fun i _ _ _ _ wr=>∃ n:Nat,i=.int .i64 n/\n<=p.needs.length/\Below W2.heap.size W2 wr/\Hid ((p.needs.take n).any (M.Zdd p q l)=false)) (fun i _ _ _ _ _=>p.needs.length-(intOf i).toNat)
 case atStart=>exact⟨0,rfl,Nat.zero_le _,Below.refl _ _,rfl⟩
 case round=>
  obtain⟨n,rfl,hn,hBr,HR⟩:=hrel
  have hc2:wr.cell? ⟨w.heap.size,2,none⟩=some (.slice an p.needs.length cn):=HP.out wr hBr 2 _ rfl
  by_cases hlt:n<p.needs.length
  ·have hBw:Below w.heap.size w wr:=bt hB2 (hBr.mono (by omega))
   have hN2:Za9 wr 0 wr.heap.size (.slice an p.needs.length cn) p.needs:=(HN.out.keep fun g' o' _ hg'=>Zcb hBw hg').wide (Nat.zero_le _) hBw.size
   obtain⟨gn,au,cu,rfl,hgn,hcell,hrow⟩:=hN2.at n hlt
   have hgs:=hsp.needs _ (List.getElem_mem hlt)
   have hcapn:p.needs.length<=cn:=by
    rcases hN2 with ⟨vs,h1,_⟩
    obtain⟨_,h0,_⟩|⟨_,_,e1,e2,_⟩:=h1
    ·omega
    ·cases e1;exact e2
   have cA:=fun wx (hb:Below wr.heap.size wr wx)=>Zlh (.slice au p.needs[n].length cu) (.slice al l.length cl) p.needs[n] l wx ((hrow.keep fun g' o' _ hg'=>Zcb hb hg').wide (Nat.zero_le _) hb.size) (HL.out.below (bt hBw hb)) hgs.1 hln hgs.2 (fun p hp=>(HS.out p hp).ver)
   have cB:=fun wx (hb:Below wr.heap.size wr wx)=>Zlh (.slice au p.needs[n].length cu) (.slice (some ⟨wx.heap.size,0,none⟩) 1 1) p.needs[n] [p] (wx.alloc (.cells #[.string X,.string Y,.slice (some ⟨gn,0,none⟩) p.needs.length cn,bv,fv] 181))
    (by have hb2:=hb.alloc hb.size (.cells #[.string X,.string Y,.slice (some ⟨gn,0,none⟩) p.needs.length cn,bv,fv] 181);exact(hrow.keep fun g' o' _ hg'=>Zcb hb2 hg').wide (Nat.zero_le _) hb2.size)
    (Zyo ((HP0.out.below (bt hBw hb)).cell _) ler) hgs.1 (by simp) hgs.2 (fun x hx=>by simp at hx;subst hx;exact hsp.ver)
   have cC:=fun wx (hb:Below wr.heap.size wr wx)=>Zlh (.slice au p.needs[n].length cu) (.slice (some ⟨wx.heap.size,0,none⟩) 1 1) p.needs[n] [q] (wx.alloc (.cells #[.string X',.string Y',nv',bv',fv'] 181))
    (by have hb2:=hb.alloc hb.size (.cells #[.string X',.string Y',nv',bv',fv'] 181);exact(hrow.keep fun g' o' _ hg'=>Zcb hb2 hg').wide (Nat.zero_le _) hb2.size)
    (Zyo ((HQ0.out.below (bt hBw hb)).cell _) ler) hgs.1 (by simp) hgs.2 (fun x hx=>by simp at hx;subst hx;exact hsq.ver)
   have HG:Hid (M.Zdd p q l p.needs[n]=(!M.Zeb p.needs[n] l && (!M.Zeb p.needs[n] [p] && M.Zeb p.needs[n] [q]))):=rfl
   generalize M.Zeb p.needs[n] l=a at cA HG
   generalize M.Zeb p.needs[n] [p]=b at cB HG
   generalize M.Zeb p.needs[n] [q]=c at cC HG
   clear hrow hgs hN2
   have cA2:=cA wr (Below.refl _ _)
   go_wp2_with fail
   refine cA2.mono ?_
   rintro e w3 ⟨rfl,hB3⟩
   have p0:=HP.out w3 (bt hBr hB3) 0 _ rfl
   have p1:=HP.out w3 (bt hBr hB3) 1 _ rfl
   have p2:=HP.out w3 (bt hBr hB3) 2 _ rfl
   have p3:=HP.out w3 (bt hBr hB3) 3 _ rfl
   have p4:=HP.out w3 (bt hBr hB3) 4 _ rfl
   clear cA cA2 hcell hc2
   go_wp2_with fail
   refine(cB w3 hB3).mono ?_
   rintro e w4 ⟨rfl,hB4⟩
   have hB5:Below wr.heap.size wr w4:=bt (hB3.alloc hB3.size _) hB4
   have q0:=HQ.out w4 (bt hBr hB5) 0 _ rfl
   have q1:=HQ.out w4 (bt hBr hB5) 1 _ rfl
   have q2:=HQ.out w4 (bt hBr hB5) 2 _ rfl
   have q3:=HQ.out w4 (bt hBr hB5) 3 _ rfl
   have q4:=HQ.out w4 (bt hBr hB5) 4 _ rfl
   clear cB p0 p1 p2 p3 p4 hB4 hB3
   go_wp2_with fail
   refine(cC w4 hB5).mono ?_
   rintro e w6 ⟨rfl,hB6⟩
   have hB7:Below wr.heap.size wr w6:=bt (hB5.alloc hB5.size _) hB6
   have hB8:Below W2.heap.size W2 w6:=bt hBr hB7
   clear cC q0 q1 q2 q3 q4 hB6 hB5 hB7
   have HGo:Hid (M.Zdd p q l p.needs[n]=false->((p.needs.take (n+1)).any (M.Zdd p q l)=false)):=Zj5 hlt HR.out
   have HEnd:Hid (M.Zdd p q l p.needs[n]=true->M.Zck p q l=true):=Zja hlt
   cases a with
   | true=>
    have HR2:=HGo.out (HG.out.trans rfl)
    replace HR2:Hid ((p.needs.take (n+1)).any (M.Zdd p q l)=false):=HR2
    go_wp2
    go_roundw
    case rel=>exact⟨n+1,by go_num,by omega,hB8,HR2⟩
    case measure=>simp[intOf];omega
   | false=>
    cases b with
    | true=>
     have HR2:=HGo.out (HG.out.trans rfl)
     replace HR2:Hid ((p.needs.take (n+1)).any (M.Zdd p q l)=false):=HR2
     go_wp2
     go_roundw
     case rel=>exact⟨n+1,by go_num,by omega,hB8,HR2⟩
     case measure=>simp[intOf];omega
    | false=>
     cases c with
     | true=>
      have HE:Hid (M.Zck p q l=true):=HEnd.out (HG.out.trans rfl)
      go_wp2
      go_ret
      exact⟨Zad HE.out.symm,bt hB2 (hB8.mono (by omega))⟩
     | false=>
      have HR2:=HGo.out (HG.out.trans rfl)
      replace HR2:Hid ((p.needs.take (n+1)).any (M.Zdd p q l)=false):=HR2
      go_wp2
      go_roundw
      case rel=>exact⟨n+1,by go_num,by omega,hB8,HR2⟩
      case measure=>simp[intOf];omega
  ·have hkk:n=p.needs.length:=by omega
   have HE:Hid (M.Zck p q l=false):=by
    have h:=HR.out
    rw[hkk,List.take_length] at h
    exact h
   go_wp2
   go_ret
   exact⟨Zad HE.out.symm,bt hB2 (hBr.mono (by omega))⟩
def Zei(w:World):List M.Pk->List Value->Prop
 | [],xs=>xs=[]
 | p :: l,xs=>∃ nv bv fv xs',xs=.string ⟨p.name.toArray⟩ :: .string ⟨p.ver.toArray⟩ :: nv :: bv :: fv :: xs'/\
  Za9 w 0 w.heap.size nv p.needs/\Zas w 0 w.heap.size bv p.bars.length (Zak p.bars)/\Zas w 0 w.heap.size fv p.files.length (Zaf p.files)/\Zei w l xs'
theorem Zei.len{w:World}{l:List M.Pk}{xs:List Value}(h:Zei w l xs):xs.length=l.length*5:=by
 induction l generalizing xs with
 | nil=>subst h;rfl
 | cons p l ih=>
  obtain⟨nv,bv,fv,xs',rfl,_,_,_,h⟩:=h
  have:=ih h
  simp only[List.length_cons]
  omega
theorem Zei.one{w:World}{l:List M.Pk}{xs:List Value}(h:Zei w l xs):∀ u∈xs,u.oneCell'=true:=by
 induction l generalizing xs with
 | nil=>subst h;intro u hu;cases hu
 | cons p l ih=>
  obtain⟨nv,bv,fv,xs',rfl,h1,h2,h3,h⟩:=h
  obtain⟨_,_,rfl⟩:=h1.form
  obtain⟨_,_,rfl⟩:=h2.form
  obtain⟨_,_,rfl⟩:=h3.form
  intro u hu
  rcases List.mem_cons.1 hu with rfl|hu
  ·rfl
  rcases List.mem_cons.1 hu with rfl|hu
  ·rfl
  rcases List.mem_cons.1 hu with rfl|hu
  ·rfl
  rcases List.mem_cons.1 hu with rfl|hu
  ·rfl
  rcases List.mem_cons.1 hu with rfl|hu
  ·rfl
  exact ih h u hu
theorem Zei.app{w:World}{l k:List M.Pk}{xs ys:List Value}(h:Zei w l xs)(hk:Zei w k ys):Zei w (l++k) (xs++ys):=by
 induction l generalizing xs with
 | nil=>subst h;exact hk
 | cons p l ih=>
  obtain⟨nv,bv,fv,xs',rfl,h1,h2,h3,h⟩:=h
  exact⟨nv,bv,fv,xs'++ys,rfl,h1,h2,h3,ih h⟩
theorem Zei.below{w w':World}{l:List M.Pk}{xs:List Value}(h:Zei w l xs)(hb:Below w.heap.size w w'):Zei w' l xs:=by
 have kk:∀ g' o',0<=g'->g'<w.heap.size->Zdr w w' g' o':=fun g' o' _ hg'=>Zcb hb hg'
 induction l generalizing xs with
 | nil=>exact h
 | cons p l ih=>
  obtain⟨nv,bv,fv,xs',rfl,h1,h2,h3,h⟩:=h
  exact⟨nv,bv,fv,xs',rfl,(h1.keep kk).wide (Nat.zero_le _) hb.size,(h2.keep kk).wide (Nat.zero_le _) hb.size,(h3.keep kk).wide (Nat.zero_le _) hb.size,ih h⟩
theorem Zei.cells{w:World}{l:List M.Pk}{xs:List Value}{g off:Nat}(h:Zei w l xs)(hc:∀ j u,xs[j]? = some u->w.cell? ⟨g,off+j,none⟩=some u):
 ∀ (i:Nat) p,l[i]? = some p->Zgl w g (off+i*5) p:=by
 induction l generalizing xs off with
 | nil=>intro i p hp;simp at hp
 | cons q l ih=>
  obtain⟨nv,bv,fv,xs',rfl,h1,h2,h3,h⟩:=h
  intro i p hp
  cases i with
  | zero=>
   simp at hp
   subst hp
   exact⟨nv,bv,fv,hc 0 _ rfl,hc 1 _ rfl,hc 2 _ rfl,hc 3 _ rfl,hc 4 _ rfl,h1,h2,h3⟩
  | succ i=>
   have:=ih (off:=off+5) h (fun j u hu=>by
    have:=hc (j+5) u (by simpa using hu)
    rwa [show off+(j+5)=off+5+j by omega] at this) i p (by simpa using hp)
   rwa [show off+5+i*5=off+(i+1)*5 by omega] at this
theorem Zei.of{w:World}{l:List M.Pk}{g off:Nat}(hc:∀ (i:Nat) p,l[i]? = some p->Zgl w g (off+i*5) p):
 ∃ xs,Zei w l xs/\∀ j u,xs[j]? = some u->w.cell? ⟨g,off+j,none⟩=some u:=by
 induction l generalizing off with
 | nil=>exact⟨[],rfl,fun j u h=>by simp at h⟩
 | cons q l ih=>
  obtain⟨xs',h,hx⟩:=ih (off:=off+5) (fun i p hp=>by
   have:=hc (i+1) p (by simpa using hp)
   rwa [show off+(i+1)*5=off+5+i*5 by omega] at this)
  obtain⟨nv,bv,fv,c0,c1,c2,c3,c4,h1,h2,h3⟩:=hc 0 q rfl
  refine⟨_,⟨nv,bv,fv,xs',rfl,h1,h2,h3,h⟩,fun j u hu=>?_⟩
  match j,hu with
  | 0,hu=>simp at hu;subst hu;exact c0
  | 1,hu=>simp at hu;subst hu;exact c1
  | 2,hu=>simp at hu;subst hu;exact c2
  | 3,hu=>simp at hu;subst hu;exact c3
  | 4,hu=>simp at hu;subst hu;exact c4
  | j+5,hu=>
   have:=hx j u (by simpa using hu)
   rwa [show off+5+j=off+(j+5) by omega] at this
theorem Zbc.own{w:World}{B e:Nat}{v:Value}{l:List M.Pk}{xs:List Value}(h:Zei w l xs)(ho:w.ownsRow B e 5 v l.length xs)(he:e≠9:=by decide):Zbc w v l:=by
 obtain⟨rfl,h0,rfl⟩|⟨g,cap,rfl,h2,_,h4,h5⟩:=Zas.own ho (fun h=>absurd h he)
 ·exact .inl ⟨List.length_eq_zero_iff.mp h0,none,0,rfl⟩
 ·exact .inr ⟨g,0,cap,rfl,h2,h4.1,h.cells (fun j u hu=>by rw[Nat.zero_add];exact h5 j u hu)⟩
theorem Z6a:(Tryz.prog.info? 181).map (fun i=>(i.zero,i.size,i.bytes))=some (some (.agg #[.string ⟨#[]⟩,.string ⟨#[]⟩,.slice none 0 0,.slice none 0 0,.slice none 0 0]),5,104):=by kernel_rfl
theorem run_append_nothing{P:Program}(w:World)(t ty e:TypeId)(i:TypeInfo)(ht:P.underlying t=some (.slice e))(hi:P.info? e=some i)(ao ax:Option Addr)(n cap c:Nat)(hn:n<=cap):
 (Builtin.append_ #[t,t] ty #[.slice ao n cap,.slice ax 0 c]).run P w=.ok (.slice ao n cap) w:=by
 have hfc:(Builtin.firstCells i.size 0 (.slice ax 0 c)).run P w=.ok #[] w:=by
  cases ax with
  | none=>exact run_firstCells_none w _ _ _ _
  | some b=>exact run_firstCells_some w i.size 0 b 0 c [] (by simp) (fun j v h=>by simp at h)
 cases ao with
 | none=>simp[Builtin.append_,run_underlying ht,sizeOf,typeInfo,hi,Builtin.lenOf,hn,hfc]
 | some b=>simp[Builtin.append_,run_underlying ht,sizeOf,typeInfo,hi,Builtin.lenOf,hn,hfc,storeCells]
def Zg4(w wr:World)(v:Value)(l:List M.Pk):Prop:=
 (l=[]/\∃ a c,v=.slice a 0 c)\/∃ g off c xs,v=.slice (some ⟨g,off,none⟩) l.length c/\l.length<=c/\Zei w l xs/\g<wr.heap.size/\∀ j u,xs[j]? = some u->wr.cell? ⟨g,off+j,none⟩=some u
def Zcv(w wr:World)(v:Value)(l:List M.Pk):Prop:=
 Zg4 w wr v l/\(l≠[]->∀ g o n c,v=.slice (some ⟨g,o,none⟩) n c->∃ cur fz,wr.heap[g]? = some (.cells cur 181 fz))
theorem Zg4.pks{w wr:World}{v:Value}{l:List M.Pk}(h:Zg4 w wr v l)(hb:Below w.heap.size w wr):Zbc wr v l:=by
 rcases h with h|⟨g,off,c,xs,rfl,h1,h2,h3,h4⟩
 ·exact .inl h
 ·exact .inr ⟨g,off,c,rfl,h1,h3,(h2.below hb).cells h4⟩
theorem Zg4.of{w:World}{v:Value}{l:List M.Pk}(h:Zbc w v l):Zg4 w w v l:=by
 rcases h with h|⟨g,off,c,rfl,h1,h2,h3⟩
 ·exact .inl h
 ·obtain⟨xs,a,b⟩:=Zei.of h3
  exact .inr ⟨g,off,c,xs,rfl,h1,a,h2,b⟩
theorem Zg4.keep{w wr w':World}{v:Value}{l:List M.Pk}(h:Zg4 w wr v l)(hz:wr.heap.size<=w'.heap.size)(hk:l≠[]->∀ g o n c,v=.slice (some ⟨g,o,none⟩) n c->g<wr.heap.size->w'.heap[g]? = wr.heap[g]?):Zg4 w w' v l:=by
 by_cases h0:l=[]
 ·subst h0
  rcases h with h|⟨g,off,c,xs,rfl,_⟩
  ·exact .inl h
  ·exact .inl ⟨rfl,_,_,rfl⟩
 ·rcases h with h|⟨g,off,c,xs,rfl,h1,h2,h3,h4⟩
  ·exact .inl h
  ·exact .inr ⟨g,off,c,xs,rfl,h1,h2,by omega,fun j u hu=>(World.cell?_of_block (a:=⟨g,off+j,none⟩) (hk h0 _ _ _ _ rfl h3)).trans (h4 j u hu)⟩
theorem Zcv.keep{w wr w':World}{v:Value}{l:List M.Pk}(h:Zcv w wr v l)(hz:wr.heap.size<=w'.heap.size)(hk:l≠[]->∀ g o n c,v=.slice (some ⟨g,o,none⟩) n c->g<wr.heap.size->w'.heap[g]? = wr.heap[g]?):Zcv w w' v l:=by
 refine⟨h.1.keep hz hk,fun h0 g o n c e=>?_⟩
 obtain⟨cur,fz,h1⟩:=h.2 h0 g o n c e
 exact⟨cur,fz,(hk h0 g o n c e (Array.getElem?_eq_some_iff.1 h1).1).trans h1⟩
theorem Zcv.below{w wr w':World}{v:Value}{l:List M.Pk}(h:Zcv w wr v l)(hb:Below wr.heap.size wr w'):Zcv w w' v l:=h.keep hb.size (fun _ g _ _ _ _ hg=>hb.block g hg)
theorem Zcv.grown{w wr w':World}{v ov:Value}{l:List M.Pk}{B e n:Nat}{xs:List Value}{size:Nat}(h:Zcv w wr v l)(ho:wr.ownsRow B e size ov n xs)(he:e≠181)(hg:wr.grownBy w' ov.ownBlock):Zcv w w' v l:=by
 refine h.keep hg.size (fun h0 g o n' c e' hlt=>hg.block g hlt fun e2=>?_)
 obtain⟨cur,fz,h1⟩:=h.2 h0 g o n' c e'
 obtain⟨_,⟨rfl,_⟩|⟨g',cap',cur',rfl,_,hg',_⟩⟩:=ho
 ·cases e2
 ·injection e2 with e2
  subst e2
  rw[hg'] at h1
  injection h1 with h1
  injection h1 with _ h2
  exact he h2
theorem Zcv.form{w wr:World}{v:Value}{l:List M.Pk}(h:Zcv w wr v l):∃ a cap,v=.slice a l.length cap:=by
 rcases h.1 with ⟨rfl,a,c,rfl⟩|⟨g,off,cap,xs,rfl,_⟩
 ·exact⟨a,c,rfl⟩
 ·exact⟨_,_,rfl⟩
theorem Zei.split{w:World}{l1 l2:List M.Pk}{xs:List Value}(h:Zei w (l1++l2) xs):∃ ys zs,xs=ys++zs/\Zei w l1 ys/\Zei w l2 zs:=by
 induction l1 generalizing xs with
 | nil=>exact⟨[],xs,rfl,rfl,h⟩
 | cons p l ih=>
  obtain⟨nv,bv,fv,xs',rfl,h1,h2,h3,h⟩:=h
  obtain⟨ys,zs,rfl,ha,hb⟩:=ih h
  exact⟨_,zs,rfl,⟨nv,bv,fv,ys,rfl,h1,h2,h3,ha⟩,hb⟩
theorem Zcv.cut{w wr:World}{a:Option Addr}{n c:Nat}{l:List M.Pk}(h:Zcv w wr (.slice a n c) l){k:Nat}(hk:k<l.length):
 ∃ g off,a=some ⟨g,off,none⟩/\n=l.length/\n<=c/\Zcv w wr (.slice (some ⟨g,off,none⟩) k k) (l.take k)/\Zg4 w wr (.slice (some ⟨g,off+(k+1)*5,none⟩) (l.length-(k+1)) (c-(k+1))) (l.drop (k+1)):=by
 obtain⟨h,ht⟩:=h
 rcases h with ⟨rfl,_⟩|⟨g,off,c',xs,e,h1,h2,h3,h4⟩
 ·simp at hk
 ·cases e
  have hne:l≠[]:=fun e=>by rw[e] at hk;simp at hk
  have hl:l=l.take k++([l[k]]++l.drop (k+1)):=by simp
  rw[hl] at h2
  obtain⟨ys,zs,rfl,ha,hb⟩:=h2.split
  obtain⟨us,vs,rfl,hb1,hb2⟩:=hb.split
  have hy:=ha.len
  have hu:=hb1.len
  have hy':ys.length=k*5:=by rw[hy,List.length_take,Nat.min_eq_left (by omega)]
  simp only[List.length_singleton] at hu
  refine⟨g,off,rfl,rfl,h1,⟨.inr ⟨g,off,k,ys,by rw[List.length_take,Nat.min_eq_left (by omega)],by rw[List.length_take];omega,ha,h3,fun j u hj=>h4 j u ?_⟩,fun _ g' o n' c2 e=>by cases e;exact ht hne _ _ _ _ rfl⟩,.inr ⟨g,_,_,vs,by rw[List.length_drop],by rw[List.length_drop];omega,hb2,h3,fun j u hj=>?_⟩⟩
  ·rw[List.getElem?_append_left (List.getElem?_eq_some_iff.1 hj).1];exact hj
  ·have:=h4 ((k+1)*5+j) u (by rw[List.getElem?_append_right (by omega),List.getElem?_append_right (by omega)];rw[<-hj];congr 1;omega)
   rwa [<-Nat.add_assoc] at this
theorem Zr3(w wr:World)(ty:TypeId)(ao:Option Addr)(cap:Nat)(sv:Value)(l1 l2:List M.Pk)(h1:Zcv w wr (.slice ao l1.length cap) l1)(hcap:cap=l1.length)(hnone:ao=none->l1.length=0)(h2:Zg4 w wr sv l2)(hn:l1.length+l2.length<=1000000):
 ∃ v' w',(Builtin.append_ #[76,76] ty #[.slice ao l1.length cap,sv]).run Tryz.prog wr=.ok v' w'/\Zcv w w' v' (l1++l2)/\Below wr.heap.size wr w':=by
 obtain⟨i0,hi0,hz0,hz1,hz2⟩:=info_parts Z6a
 subst hcap
 by_cases h0:l2=[]
 ·subst h0
  obtain⟨a,c,rfl⟩:∃ a c,sv=.slice a 0 c:=by
   rcases h2 with ⟨_,a,c,rfl⟩|⟨g,off,c,xs,rfl,_⟩
   ·exact⟨a,c,rfl⟩
   ·exact⟨_,_,rfl⟩
  refine⟨_,wr,run_append_nothing wr _ ty _ i0 Tryz.underlying76 hi0 ao a _ _ c ler,?_,Below.refl _ _⟩
  rw[List.append_nil]
  exact h1
 ·rcases h2 with ⟨h,_⟩|⟨g,off,c,news,rfl,hc,hr2,hg,hc2⟩
  ·exact absurd h h0
  ·have hnl:=hr2.len
   have hpos:0<l2.length:=List.length_pos_iff.2 h0
   have hcn:∀ j u,news[j]? = some u->wr.cell? ((⟨g,off,none⟩:Addr).add j)=some u:=fun j u hu=>by rw[Addr.add_lit];exact hc2 j u hu
   obtain⟨olds,hr1,hc1⟩:∃ olds,Zei w l1 olds/\∀ b,ao=some b->∀ j u,olds[j]? = some u->wr.cell? (b.add j)=some u:=by
    rcases h1.1 with ⟨rfl,a,c',e⟩|⟨g',off',c',olds,e,hc',hr1,hg',hc1⟩
    ·exact⟨[],rfl,fun b _ j u h=>by simp at h⟩
    ·cases e
     exact⟨olds,hr1,fun b e j u hu=>by cases e;rw[Addr.add_lit];exact hc1 j u hu⟩
   have hol:=hr1.len
   have fin:∀ v' w',w'.ownsRow wr.heap.size 181 5 v' (l1.length+l2.length) (olds++news)->wr.grownBy w' none->Zcv w w' v' (l1++l2)/\Below wr.heap.size wr w':=fun v' w' ho hgr=>by
    have hB:Below wr.heap.size wr w':=(Below.refl _ wr).grown hgr ler (fun j hj=>by simp at hj)
    refine⟨⟨?_,fun _ g' o' n' c' e=>?_⟩,hB⟩
    ·obtain⟨rfl,h0',_⟩|⟨g',cap',rfl,k2,_,k4,k5⟩:=Zas.own ho
     ·omega
     ·exact .inr ⟨g',0,cap',olds++news,by rw[List.length_append],by rw[List.length_append];exact k2,hr1.app hr2,k4.1,fun j u hu=>by rw[Nat.zero_add];exact k5 j u hu⟩
    ·obtain⟨_,⟨rfl,_⟩|⟨g2,cap2,cur2,rfl,_,hg2,_⟩⟩:=ho
     ·cases e
     ·cases e
      exact⟨cur2,_,hg2⟩
   cases ao with
   | some b=>
    obtain⟨v',w',hrun,r1,r2⟩:=run_append_arg_grows (P:=Tryz.prog) wr 76 ty 181 i0 _ 5 104 Tryz.underlying76 hi0 hz0 hz1 hz2 rfl (by decide) b l1.length l1.length olds hol (hc1 b rfl) ⟨g,off,none⟩ l2.length c news hnl hcn (by omega) (by unfold maxLen;omega) (by omega)
    exact⟨v',w',hrun,fin v' w' r1 r2⟩
   | none=>
    have hl0:=hnone rfl
    obtain rfl:l1=[]:=List.length_eq_zero_iff.mp hl0
    obtain rfl:olds=[]:=hr1
    obtain⟨v',w',hrun,r1,r2,_⟩:=run_append_own (P:=Tryz.prog) wr wr.heap.size 76 ty 181 i0 _ 5 104 Tryz.underlying76 hi0 hz0 hz1 hz2 rfl (by decide) (.slice none 0 0) 0 [] (World.ownsRow_nil wr _ _ 5) ⟨g,off,none⟩ l2.length c news hnl hcn hr2.one (by unfold maxLen;omega) (by omega) ler
    exact⟨v',w',hrun,fin v' w' r1 r2⟩
theorem Zhj{wr:World}{ops:Array Oper}{rest:List Oper}{o:Oper}{a:Act}{Q:Exit->Act->World->Prop}(hg:o.guard=none)(s x:Operand)
 (hop:o.op=Op.call { callee:=Callee.builtin Builtin.append,args:=#[s,x],argTypes:=#[76,76] })
 (w:World) (ao:Option Addr) (cap:Nat) (sv:Value) (l1 l2:List M.Pk) (hs:a.eval s=.slice ao l1.length cap) (hx:a.eval x=sv) (h1:Zcv w wr (.slice ao l1.length cap) l1) (hcap:cap=l1.length) (hnone:ao=none->l1.length=0) (h2:Zg4 w wr sv l2) (hn:l1.length+l2.length<=1000000)
 (hK:∀ v' w',Zcv w w' v' (l1++l2)->Below wr.heap.size wr w'->wpList Tryz.prog ops Q rest (a.put o.dst v') w'):wpList Tryz.prog ops Q (o :: rest) a wr:=by
 refine wpList_plain hg fun K hK'=>?_
 obtain⟨v',w',hrun,r1,r2⟩:=Zr3 w wr o.type ao cap sv l1 l2 h1 hcap hnone h2 hn
 unfold Oper.wp
 simp[execOp,hop,resolve,invoke,builtin,hs,hx,hrun,Result.andThen]
 exact hK' _ _ (hK v' w' r1 r2)
theorem Ziu{wr:World}{ops:Array Oper}{o:Oper}{a:Act}{K:Act->World->Prop}{Q:Exit->Act->World->Prop}{E:Prop}(hgd:o.guard=none)(s x:Operand)
 (hop:o.op=Op.call { callee:=Callee.builtin Builtin.append,args:=#[s,x],argTypes:=#[76,76] })
 (w:World) (ao:Option Addr) (cap:Nat) (sv:Value) (l1 l2:List M.Pk) (hs:a.eval s=.slice ao l1.length cap) (hx:a.eval x=sv) (h1:Zcv w wr (.slice ao l1.length cap) l1) (hcap:cap=l1.length) (hnone:ao=none->l1.length=0) (h2:Zg4 w wr sv l2) (hn:l1.length+l2.length<=1000000)
 (hK:∀ v' w',Zcv w w' v' (l1++l2)->Below wr.heap.size wr w'->K (a.put o.dst v') w'):
 if Region.wanted o (yielded ops a.tmps)=true then Oper.wp Tryz.prog o a wr K Q else E:=by
 rw[if_pos (by simp[Region.wanted,hgd])]
 obtain⟨v',w',hrun,r1,r2⟩:=Zr3 w wr o.type ao cap sv l1 l2 h1 hcap hnone h2 hn
 unfold Oper.wp
 simp[execOp,hop,resolve,invoke,builtin,hs,hx,hrun,Result.andThen]
 exact hK v' w' r1 r2
theorem Z0r:Tryz.prog.underlying 76=some (.slice (Tryz.prog.elem 76)):=by kernel_rfl
theorem Zzm(w:World):(sizeOf (Tryz.prog.elem 76)).run Tryz.prog w=.ok 5 w:=by
 have h:(Tryz.prog.info? (Tryz.prog.elem 76)).map (fun i=>i.size)=some 5:=by kernel_rfl
 obtain⟨i,hi,e⟩:=Option.map_eq_some_iff.1 h
 simp[sizeOf,typeInfo,hi,e]
theorem Zzb(w:World)(g off n c k:Nat)(hk:k<=c):
 (Instr.slice 76 (.slice (some ⟨g,off,none⟩) n c) none (some (.int .i64 k)) (some (.int .i64 k))).run Tryz.prog w=.ok (.slice (some ⟨g,off,none⟩) k k) w:=by
 rw[run_slice_hm w _ _ _ _ Z0r _ _ _ _ (by omega) (by omega) (by omega),Zzm]
 simp only[Result.andThen,sliced]
 by_cases h:k=0
 ·subst h;simp
 ·simp[Addr.add_lit]
theorem Zu5(w:World)(g off n c k:Nat)(hk:k<=n):
 (Instr.slice 76 (.slice (some ⟨g,off,none⟩) n c) (some (.int .i64 k)) none none).run Tryz.prog w=.ok (.slice (if c=k then some ⟨g,off,none⟩ else some ⟨g,off+k*5,none⟩) (n-k) (c-k)) w:=by
 rw[run_slice_l w _ _ _ _ Z0r _ _ (by omega) (by omega),Zzm]
 simp only[Result.andThen,sliced]
 by_cases h:c=k
 ·simp[h]
 ·simp[h,Addr.add_lit]
end Go.Proofs.YtgnfknjopafngabGreatDoor
