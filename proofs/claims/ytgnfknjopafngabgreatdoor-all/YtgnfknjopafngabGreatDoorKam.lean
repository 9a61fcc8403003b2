import Derived.Test.YtgnfknjopafngabGreatDoorKal
import Derived.Deep.RegionWith
set_option maxRecDepth 100000
set_option maxHeartbeats 4000000
namespace Go.Proofs.YtgnfknjopafngabGreatDoor
open Go.RowKit
def Zkj(A S V N P:ByteArray):Bool:=M.Zc9 ⟨A.data.toList,S.data.toList,V.data.toList⟩ ⟨N.data.toList,P.data.toList,[],[],[]⟩
theorem Ztv{A S V N P:ByteArray}(h:(A.toList == N.toList)=false):Zkj A S V N P=false:=by
 unfold Zkj M.Zc9
 rw[if_neg]
 rw[Lib.toList_data,Lib.toList_data,beq_eq_false_iff_ne] at h
 exact h
theorem Zy9{A S V N P:ByteArray}(h:(A.toList == N.toList)=true):Zkj A S V N P =
 (if S.toList == [60,60] then decide (Ztk P V<0) else if S.toList == [60,61] then decide (Ztk P V<=0) else if S.toList == [61] then decide (Ztk P V=0) else if S.toList == [62,61] then decide (0<=Ztk P V) else if S.toList == [62,62] then decide (0<Ztk P V) else true):=by
 unfold Zkj M.Zc9
 rw[Lib.toList_data,Lib.toList_data,beq_iff_eq] at h
 rw[if_pos h]
 simp only[Lib.toList_data,beq_iff_eq]
 rfl
theorem Z9b(A S V N P:ByteArray)(nv bv fv:Value)(w:World)(hV:V.size<=8192)(hP:P.size<=8192):
 Calls Tryz.prog 200 #[.agg #[.string A,.string S,.string V],.agg #[.string N,.string P,nv,bv,fv]] w fun e w'=>e=.returned (.bool (Zkj A S V N P))/\Below w.heap.size w w':=by
 have cC:=fun wx=>Zqd P V wx hP hV
 by_cases h0:(A.toList == N.toList)=true
 ·have HE:=Zy9 (S:=S) (V:=V) (P:=P) h0
  replace HE:Hid _:=HE
  have hF:∀ w2,Below ((w.alloc (.cells #[.string A,.string S,.string V] 305)).alloc (.cells #[.string N,.string P,nv,bv,fv] 181)).heap.size ((w.alloc (.cells #[.string A,.string S,.string V] 305)).alloc (.cells #[.string N,.string P,nv,bv,fv] 181)) w2->Below w.heap.size w w2:=fun w2 hb=>bt (bt ((Below.refl _ w).alloc ler _) ((Below.refl _ _).alloc ler _)) hb
  have hS:∀ w2,Below ((w.alloc (.cells #[.string A,.string S,.string V] 305)).alloc (.cells #[.string N,.string P,nv,bv,fv] 181)).heap.size ((w.alloc (.cells #[.string A,.string S,.string V] 305)).alloc (.cells #[.string N,.string P,nv,bv,fv] 181)) w2->w2.cell? ⟨w.heap.size,1,none⟩=some (.string S):=fun w2 hb=>by
   obtain⟨_,a2,a3,_⟩:=Zme w [.string A,.string S,.string V] 305 0
   have a2':(w.alloc (.cells #[.string A,.string S,.string V] 305)).heap.size=w.heap.size+1:=a2
   have h1:((w.alloc (.cells #[.string A,.string S,.string V] 305)).alloc (.cells #[.string N,.string P,nv,bv,fv] 181)).cell? ⟨w.heap.size,1,none⟩=some (.string S):=(World.cell?_alloc_past _ _ _ (by show w.heap.size < _;rw[a2'];omega)).trans (a3 1 _ rfl)
   exact(hb.cell (p:=⟨w.heap.size,1,none⟩) (World.block_lt_of_cell? _ _ h1)).trans h1
  generalize Ztk P V=o at cC HE
  by_cases s1:(S.toList == [60,60])=true
  ·have H2:Hid (Zkj A S V N P=decide (o<0)):=by show _ = _;rw[HE.out,if_pos s1]
   go_enter Tryz.func200,Tryz.ntmps200
   go_wp2_with fail
   refine(cC _).mono ?_
   rintro e w2 ⟨rfl,hB2⟩
   have q1:=hS w2 hB2
   go_wp2
   go_ret
   exact⟨Zad (by rw[H2.out]),hF w2 hB2⟩
  replace s1:(S.toList == [60,60])=false:=by simpa using s1
  by_cases s2:(S.toList == [60,61])=true
  ·have H2:Hid (Zkj A S V N P=decide (o<=0)):=by show _ = _;rw[HE.out,if_neg (by rw[s1];decide),if_pos s2]
   go_enter Tryz.func200,Tryz.ntmps200
   go_wp2_with fail
   refine(cC _).mono ?_
   rintro e w2 ⟨rfl,hB2⟩
   have q1:=hS w2 hB2
   go_wp2
   go_ret
   exact⟨Zad (by rw[H2.out]),hF w2 hB2⟩
  replace s2:(S.toList == [60,61])=false:=by simpa using s2
  by_cases s3:(S.toList == [61])=true
  ·have H2:Hid (Zkj A S V N P=decide (o=0)):=by show _ = _;rw[HE.out,if_neg (by rw[s1];decide),if_neg (by rw[s2];decide),if_pos s3]
   go_enter Tryz.func200,Tryz.ntmps200
   go_wp2_with fail
   refine(cC _).mono ?_
   rintro e w2 ⟨rfl,hB2⟩
   have q1:=hS w2 hB2
   go_wp2
   go_ret
   exact⟨Zad (by rw[H2.out,Bool.eq_iff_iff];simp),hF w2 hB2⟩
  replace s3:(S.toList == [61])=false:=by simpa using s3
  by_cases s4:(S.toList == [62,61])=true
  ·have H2:Hid (Zkj A S V N P=decide (0<=o)):=by show _ = _;rw[HE.out,if_neg (by rw[s1];decide),if_neg (by rw[s2];decide),if_neg (by rw[s3];decide),if_pos s4]
   go_enter Tryz.func200,Tryz.ntmps200
   go_wp2_with fail
   refine(cC _).mono ?_
   rintro e w2 ⟨rfl,hB2⟩
   have q1:=hS w2 hB2
   go_wp2
   go_ret
   exact⟨Zad (by rw[H2.out]),hF w2 hB2⟩
  replace s4:(S.toList == [62,61])=false:=by simpa using s4
  by_cases s5:(S.toList == [62,62])=true
  ·have H2:Hid (Zkj A S V N P=decide (0<o)):=by show _ = _;rw[HE.out,if_neg (by rw[s1];decide),if_neg (by rw[s2];decide),if_neg (by rw[s3];decide),if_neg (by rw[s4];decide),if_pos s5]
   go_enter Tryz.func200,Tryz.ntmps200
   go_wp2_with fail
   refine(cC _).mono ?_
   rintro e w2 ⟨rfl,hB2⟩
   have q1:=hS w2 hB2
   go_wp2
   go_ret
   exact⟨Zad (by rw[H2.out]),hF w2 hB2⟩
  replace s5:(S.toList == [62,62])=false:=by simpa using s5
  have H2:Hid (Zkj A S V N P=true):=by show _ = _;rw[HE.out,if_neg (by rw[s1];decide),if_neg (by rw[s2];decide),if_neg (by rw[s3];decide),if_neg (by rw[s4];decide),if_neg (by rw[s5];decide)]
  go_enter Tryz.func200,Tryz.ntmps200
  go_wp2_with fail
  refine(cC _).mono ?_
  rintro e w2 ⟨rfl,hB2⟩
  have q1:=hS w2 hB2
  go_wp2
  go_ret
  exact⟨Zad (by rw[H2.out]),hF w2 hB2⟩
 ·replace h0:(A.toList == N.toList)=false:=by simpa using h0
  have HE:Hid (Zkj A S V N P=false):=Ztv h0
  go_enter Tryz.func200,Tryz.ntmps200
  go_wp2
  go_ret
  exact⟨Zad HE.out.symm,bt ((Below.refl _ w).alloc ler _) ((Below.refl _ _).alloc ler _)⟩
def Zgl(w:World)(g o:Nat)(p:M.Pk):Prop:=
 ∃ nv bv fv,w.cell? ⟨g,o,none⟩=some (.string ⟨p.name.toArray⟩)/\w.cell? ⟨g,o+1,none⟩=some (.string ⟨p.ver.toArray⟩)/\w.cell? ⟨g,o+2,none⟩=some nv/\w.cell? ⟨g,o+3,none⟩=some bv/\w.cell? ⟨g,o+4,none⟩=some fv/\
  Za9 w 0 w.heap.size nv p.needs/\Zas w 0 w.heap.size bv p.bars.length (Zak p.bars)/\Zas w 0 w.heap.size fv p.files.length (Zaf p.files)
def Zbc(w:World)(v:Value)(l:List M.Pk):Prop:=
 (l=[]/\∃ a c,v=.slice a 0 c)\/∃ g off cap,v=.slice (some ⟨g,off,none⟩) l.length cap/\l.length<=cap/\g<w.heap.size/\∀ (i:Nat) p,l[i]? = some p->Zgl w g (off+i*5) p
theorem Zgl.below{w w':World}{g o:Nat}{p:M.Pk}(h:Zgl w g o p)(hb:Below w.heap.size w w'):Zgl w' g o p:=by
 obtain⟨nv,bv,fv,h0,h1,h2,h3,h4,h5,h6,h7⟩:=h
 have hg:g<w.heap.size:=World.block_lt_of_cell? _ _ h0
 have k:∀ j,w'.cell? ⟨g,j,none⟩=w.cell? ⟨g,j,none⟩:=fun j=>hb.cell (p:=⟨g,j,none⟩) hg
 have kk:∀ g' o',0<=g'->g'<w.heap.size->Zdr w w' g' o':=fun g' o' _ hg'=>Zcb hb hg'
 exact⟨nv,bv,fv,(k _).trans h0,(k _).trans h1,(k _).trans h2,(k _).trans h3,(k _).trans h4,(h5.keep kk).wide (Nat.zero_le _) hb.size,(h6.keep kk).wide (Nat.zero_le _) hb.size,(h7.keep kk).wide (Nat.zero_le _) hb.size⟩
theorem Zbc.below{w w':World}{v:Value}{l:List M.Pk}(h:Zbc w v l)(hb:Below w.heap.size w w'):Zbc w' v l:=by
 rcases h with h|⟨g,off,cap,h1,h2,h3,h4⟩
 ·exact .inl h
 ·exact .inr ⟨g,off,cap,h1,h2,Nat.lt_of_lt_of_le h3 hb.size,fun i p hp=>(h4 i p hp).below hb⟩
theorem Zbc.form{w:World}{v:Value}{l:List M.Pk}(h:Zbc w v l):∃ a cap,v=.slice a l.length cap:=by
 rcases h with ⟨rfl,a,c,rfl⟩|⟨g,off,cap,rfl,_⟩
 ·exact⟨a,c,rfl⟩
 ·exact⟨_,_,rfl⟩
theorem Zbc.cells{w:World}{a:Option Addr}{n cap:Nat}{l:List M.Pk}(h:Zbc w (.slice a n cap) l){i:Nat}(hi:i<l.length):
 ∃ g off,a=some ⟨g,off,none⟩/\n=l.length/\n<=cap/\Zgl w g (off+i*5) l[i]:=by
 rcases h with ⟨rfl,_⟩|⟨g,off,cap',e,h2,h3,h4⟩
 ·simp at hi
 ·cases e
  exact⟨g,off,rfl,rfl,h2,h4 i _ (List.getElem?_eq_getElem hi)⟩
def Zwj(c:M.Ch)(p:M.Pk):Bool:=M.Zc9 c p
theorem Zxa(c:M.Ch)(p:M.Pk):Zkj ⟨c.name.toArray⟩ ⟨c.sign.toArray⟩ ⟨c.ver.toArray⟩ ⟨p.name.toArray⟩ ⟨p.ver.toArray⟩=Zwj c p:=rfl
theorem Zj5{α:Type}{f:α->Bool}{l:List α}{k:Nat}(hk:k<l.length)(h:(l.take k).any f=false)(hf:f l[k]=false):(l.take (k+1)).any f=false:=by
 rw[List.take_succ_eq_append_getElem hk,List.any_append,h];simp[hf]
theorem Zja{α:Type}{f:α->Bool}{l:List α}{k:Nat}(hk:k<l.length)(hf:f l[k]=true):l.any f=true:=List.any_eq_true.2 ⟨_,List.getElem_mem hk,hf⟩
theorem Zlh(gv lv:Value)(g:List M.Ch)(l:List M.Pk)(w:World)(hg:Zas w 0 w.heap.size gv g.length (Zak g))(hl:Zbc w lv l)(hgn:g.length<=1000000)(hln:l.length<=1000000)
 (hgs:∀ c∈g,c.ver.length<=8192) (hls:∀ p∈l,p.ver.length<=8192):
 Calls Tryz.prog 144 #[gv,lv] w fun e w'=>e=.returned (.bool (M.Zeb g l))/\Below w.heap.size w w':=by
 obtain⟨ag,cg,eg⟩:=hg.form
 obtain⟨al,cl,el⟩:=hl.form
 subst eg el
 have HG:=hid hg
 have HL:=hid hl
 have HGS:=hid hgs
 have HLS:=hid hls
 clear hg hl hgs hls
 go_enter Tryz.func144,Tryz.ntmps144
 go_wp2
 go_loopw [5,6,7] (fun i _ _ wr=>∃ n:Nat,i=.int .i64 n/\n<=g.length/\Below w.heap.size w wr/\Hid ((g.take n).any (fun c=>l.any (Zwj c))=false)) (fun i _ _ _=>g.length-(intOf i).toNat)
 case atStart=>exact⟨0,rfl,Nat.zero_le _,Below.refl _ _,rfl⟩
 case round=>
  obtain⟨n,rfl,hn,hBr,HR⟩:=hrel
  by_cases hlt:n<g.length
  ·obtain⟨bg,rfl,hbg,hcap,hc⟩:=HG.out.cellAt (by omega)
   obtain⟨k0,k1,k2⟩:=Zi0 hlt
   have hcv:=HGS.out _ (List.getElem_mem hlt)
   have HK0:Hid (w.cell? ⟨bg,n*3,none⟩=some (.string ⟨g[n].name.toArray⟩)):=hc _ _ k0
   have HK1:Hid (w.cell? ⟨bg,n*3+1,none⟩=some (.string ⟨g[n].sign.toArray⟩)):=hc _ _ k1
   have HK2:Hid (w.cell? ⟨bg,n*3+2,none⟩=some (.string ⟨g[n].ver.toArray⟩)):=hc _ _ k2
   clear hc k0 k1 k2
   obtain⟨W0,hW0⟩:∃ W,W=wr:=⟨_,rfl⟩
   subst hW0
   go_wp2
   go_loopw [6,7] (fun j _ wr=>∃ k:Nat,j=.int .i64 k/\k<=l.length/\Below w.heap.size w wr/\Hid ((l.take k).any (Zwj g[n])=false)) (fun j _ _=>l.length-(intOf j).toNat)
   case atStart=>exact⟨0,rfl,Nat.zero_le _,hBr,rfl⟩
   case round=>
    obtain⟨k,rfl,hk,hBk,HQ⟩:=hrel
    by_cases hlk:k<l.length
    ·obtain⟨bl,off,rfl,_,hcapl,nv,bv,fv,p0,p1,p2,p3,p4,_⟩:=(HL.out.below hBk).cells hlk
     have hbk:∀ o,wr.cell? ⟨bg,o,none⟩=w.cell? ⟨bg,o,none⟩:=fun o=>hBk.cell (p:=⟨bg,o,none⟩) hbg
     have c0:=(hbk _).trans HK0.out
     have c1:=(hbk _).trans HK1.out
     have c2:=(hbk _).trans HK2.out
     have hpv:=HLS.out _ (List.getElem_mem hlk)
     have sz:∀ q:List UInt8,(ByteArray.mk q.toArray).size=q.length:=fun q=>by rw[<-Zaq]
     have cF:=fun wx=>Z9b ⟨g[n].name.toArray⟩ ⟨g[n].sign.toArray⟩ ⟨g[n].ver.toArray⟩ ⟨l[k].name.toArray⟩ ⟨l[k].ver.toArray⟩ nv bv fv wx (by rw[sz];exact hcv) (by rw[sz];exact hpv)
     rw[Zxa] at cF
     clear hbk sz
     cases hf:Zwj g[n] l[k] with
     | true=>
      have HE:Hid (M.Zeb g l=true):=Zja (f:=fun c=>l.any (Zwj c)) hlt (Zja (f:=Zwj g[n]) hlk hf)
      rw[hf] at cF
      clear hf
      go_wp2_with fail
      go_region_with (go_at_call 200;refine(cF _).mono ?_;rintro e w2 ⟨rfl,hB2⟩)
      all_goals
       go_wp2
       go_ret
       exact⟨Zad HE.out.symm,bt hBk (bt (Zae wr 1) hB2)⟩
     | false=>
      have HQ2:Hid ((l.take (k+1)).any (Zwj g[n])=false):=Zj5 hlk HQ.out hf
      rw[hf] at cF
      clear hf
      go_wp2_with fail
      go_region_with (go_at_call 200;refine(cF _).mono ?_;rintro e w2 ⟨rfl,hB2⟩)
      all_goals
       have hB3:Below w.heap.size w w2:=bt hBk (bt (Zae wr 1) hB2)
       clear hB2 cF
       go_wp2
       go_roundw
       case rel=>exact⟨k+1,by go_num,by omega,hB3,HQ2⟩
       case measure=>simp[intOf];omega
    ·have hkk:k=l.length:=by omega
     have HQ2:Hid ((g.take (n+1)).any (fun c=>l.any (Zwj c))=false):=by
      have h:=HQ.out
      rw[hkk,List.take_length] at h
      exact Zj5 hlt HR.out h
     clear hkk HQ
     go_wp2
     go_roundw
     case rel=>exact⟨n+1,by go_num,by omega,hBk,HQ2⟩
     case measure=>simp[intOf];omega
  ·have hnn:n=g.length:=by omega
   have HE:Hid (M.Zeb g l=false):=by
    have h:=HR.out
    rw[hnn,List.take_length] at h
    exact h
   go_wp2
   go_ret
   exact⟨Zad HE.out.symm,hBr⟩
def Zke(l:List M.Pk)(n:ByteArray):Int:=M.Zex l n.data.toList
theorem Z7y{l:List M.Pk}{n:ByteArray}{k:Nat}(hk:k<l.length)(h:l[k].name=n.data.toList)(ha:∀ j (hj:j<l.length),j<k->l[j].name≠n.data.toList):Zke l n=k:=by
 unfold Zke M.Zex
 rw[List.findIdx?_eq_some_iff_getElem.2 ⟨hk,by simp[h],fun j hj=>by simpa using ha j (by omega) hj⟩]
theorem Z9i{l:List M.Pk}{n:ByteArray}(ha:∀ j (hj:j<l.length),l[j].name≠n.data.toList):Zke l n = -1:=by
 unfold Zke M.Zex
 rw[List.findIdx?_eq_none_iff.2 (fun p hp=>by
  obtain⟨j,hj,rfl⟩:=List.getElem_of_mem hp
  simpa using ha j hj)]
theorem Zni(lv:Value)(l:List M.Pk)(n:ByteArray)(w:World)(hl:Zbc w lv l)(hln:l.length<=1000000):
 Calls Tryz.prog 95 #[lv,.string n] w fun e w'=>e=.returned (.int .i64 (Zke l n))/\Below w.heap.size w w':=by
 obtain⟨al,cl,el⟩:=hl.form
 subst el
 have HL:=hid hl
 clear hl
 go_enter Tryz.func95,Tryz.ntmps95
 go_wp2
 go_loopw [5] (fun i wr=>∃ k:Nat,i=.int .i64 k/\k<=l.length/\Below w.heap.size w wr/\Hid (∀ j (hj:j<l.length),j<k->l[j].name≠n.data.toList)) (fun i _=>l.length-(intOf i).toNat)
 case atStart=>exact⟨0,rfl,Nat.zero_le _,Below.refl _ _,fun j _ h=>by omega⟩
 case round=>
  obtain⟨k,rfl,hk,hBr,HR⟩:=hrel
  by_cases hlt:k<l.length
  ·obtain⟨bl,off,rfl,_,hcapl,nv,bv,fv,p0,_⟩:=(HL.out.below hBr).cells hlt
   obtain⟨X,hX⟩:∃ X:ByteArray,X=⟨l[k].name.toArray⟩:=⟨_,rfl⟩
   rw[<-hX] at p0
   have HX:Hid (X.data.toList=l[k].name):=by show _ = _;rw[hX]
   clear hX
   by_cases hm:(X.toList == n.toList)=true
   ·have HE:Hid (Zke l n=k):=Z7y hlt (by rw[Lib.toList_data,Lib.toList_data,beq_iff_eq,HX.out] at hm;exact hm) HR.out
    go_wp2
    go_ret
    exact⟨Za7 HE.out.symm,hBr⟩
   ·replace hm:(X.toList == n.toList)=false:=by simpa using hm
    have HR2:Hid (∀ j (hj:j<l.length),j<k+1->l[j].name≠n.data.toList):=fun j hj hjk=>by
     by_cases e:j<k
     ·exact HR.out j hj e
     ·obtain rfl:j=k:=by omega
      rw[Lib.toList_data,Lib.toList_data,beq_eq_false_iff_ne,HX.out] at hm
      exact hm
    go_wp2
    go_roundw
    case rel=>exact⟨k+1,by go_num,by omega,hBr,HR2⟩
    case measure=>simp[intOf];omega
  ·have HE:Hid (Zke l n = -1):=Z9i (fun j hj=>HR.out j hj (by omega))
   go_wp2
   go_ret
   exact⟨Za7 HE.out.symm,hBr⟩
structure Zdk (p:M.Pk):Prop where
 ver:p.ver.length<=8192
 needn:p.needs.length<=1000000
 needs:∀ g∈p.needs,g.length<=1000000/\∀ c∈g,c.ver.length<=8192
 barn:p.bars.length<=1000000
 bars:∀ c∈p.bars,c.ver.length<=8192
 filen:p.files.length<=1000000
theorem Zoc(lv:Value)(l:List M.Pk)(w:World)(hl:Zbc w lv l)(hln:l.length<=1000000)(hs:∀ p∈l,Zdk p):
 Calls Tryz.prog 96 #[lv] w fun e w'=>∃ T:ByteArray,e=.returned (.string T)/\T.data.toList=M.Za2 l/\Below w.heap.size w w':=by
 obtain⟨al,cl,el⟩:=hl.form
 subst el
 have HL:=hid hl
 have HS:=hid hs
 clear hl hs
 go_enter Tryz.func96,Tryz.ntmps96
 go_wp2
 go_loopw [3,4,5,6] (fun t i _ _ wr=>∃ (T:ByteArray) (n:Nat),t=.string T/\i=.int .i64 n/\n<=l.length/\Below w.heap.size w wr/\Hid (T.data.toList=(l.take n).foldl (M.Z9h l) [])) (fun _ i _ _ _=>l.length-(intOf i).toNat)
 case atStart=>exact⟨⟨#[]⟩,0,rfl,rfl,Nat.zero_le _,Below.refl _ _,rfl⟩
 case round=>
  obtain⟨T,n,rfl,rfl,hn,hBr,HR⟩:=hrel
  by_cases hlt:n<l.length
  ·have hsp:=HS.out _ (List.getElem_mem hlt)
   have hnn:=hsp.needn
   obtain⟨bl,off,rfl,_,hcapl,_⟩:=HL.out.cells hlt
   have HC:Hid (∀ W,Below w.heap.size w W->Zgl W bl (off+n*5) l[n]):=fun W hb=>by
    obtain⟨_,_,e,_,_,h⟩:=(HL.out.below hb).cells hlt
    cases e
    exact h
   obtain⟨nv,_,_,_,_,q2,_,_,hN,_,_⟩:=HC.out w (Below.refl _ _)
   obtain⟨an,cn,en⟩:=hN.form
   subst en
   have HQ2:=hid q2
   have HN:=hid hN
   have hbl:bl<w.heap.size:=World.block_lt_of_cell? _ _ q2
   clear q2 hN
   obtain⟨W0,hW0⟩:∃ W,W=wr:=⟨_,rfl⟩
   subst hW0
   go_wp2
   go_loopw [3,5,6] (fun t j _ wr=>∃ (X:ByteArray) (k:Nat),t=.string X/\j=.int .i64 k/\k<=l[n].needs.length/\Below w.heap.size w wr/\Hid (X.data.toList=(l[n].needs.take k).foldl (M.Zws l l[n].name) T.data.toList)) (fun _ j _ _=>l[n].needs.length-(intOf j).toNat)
   case atStart=>exact⟨T,0,rfl,rfl,Nat.zero_le _,hBr,rfl⟩
   case round=>
    obtain⟨X,k,rfl,rfl,hk,hBk,HX⟩:=hrel
    have c2:wr.cell? ⟨bl,off+n*5+2,none⟩=some (.slice an l[n].needs.length cn):=(hBk.cell (p:=⟨bl,off+n*5+2,none⟩) hbl).trans HQ2.out
    by_cases hlk:k<l[n].needs.length
    ·have hN2:Za9 wr 0 wr.heap.size (.slice an l[n].needs.length cn) l[n].needs:=(HN.out.keep fun g' o' _ hg'=>Zcb hBk hg').wide (Nat.zero_le _) hBk.size
     obtain⟨gn,au,cu,rfl,hgn,hcell,hrow⟩:=hN2.at k hlk
     have hgs:=hsp.needs _ (List.getElem_mem hlk)
     have cA:=fun wx (hb:Below wr.heap.size wr wx)=>Zlh (.slice au l[n].needs[k].length cu) (.slice (some ⟨bl,off,none⟩) l.length cl) l[n].needs[k] l wx ((hrow.keep fun g' o' _ hg'=>Zcb hb hg').wide (Nat.zero_le _) hb.size) (HL.out.below (bt hBk hb)) hgs.1 hln hgs.2 (fun p hp=>(HS.out p hp).ver)
     have hcapn:l[n].needs.length<=cn:=by
      rcases hN2 with ⟨vs,h1,_⟩
      obtain⟨_,h0,_⟩|⟨_,_,e1,e2,_⟩:=h1
      ·omega
      ·cases e1;exact e2
     clear hN2 hrow hgs
     cases hA:M.Zeb l[n].needs[k] l with
     | true=>
      have HX2:Hid (X.data.toList=(l[n].needs.take (k+1)).foldl (M.Zws l l[n].name) T.data.toList):=by
       show _ = _
       rw[Zd2 _ _ hlk,<-HX.out]
       unfold M.Zws
       rw[if_pos hA]
      have cA2:=cA wr (Below.refl _ _)
      rw[hA] at cA2
      clear hA cA
      go_wp2_with fail
      refine cA2.mono ?_
      rintro e w2 ⟨rfl,hB2⟩
      have hB3:Below w.heap.size w w2:=bt hBk hB2
      clear cA2 hB2 hcell
      go_wp2
      go_roundw
      case rel=>exact⟨X,k+1,rfl,by go_num,by omega,hB3,HX2⟩
      case measure=>simp[intOf];omega
     | false=>
      obtain⟨Y,hY⟩:∃ Y:ByteArray,Y=⟨l[n].name.toArray⟩:=⟨_,rfl⟩
      have HX2:Hid ((Zcu X Y).data.toList=(l[n].needs.take (k+1)).foldl (M.Zws l l[n].name) T.data.toList):=by
       show _ = _
       rw[Zd2 _ _ hlk,<-HX.out,hY]
       unfold M.Zws
       rw[if_neg (by rw[hA];decide)]
       rfl
      have cA2:=cA wr (Below.refl _ _)
      rw[hA] at cA2
      clear hA cA
      have cF:=fun wx=>Zhi X Y wx
      generalize Zcu X Y=Z at cF HX2
      go_wp2_with fail
      refine cA2.mono ?_
      rintro e w2 ⟨rfl,hB2⟩
      have hB3:Below w.heap.size w w2:=bt hBk hB2
      obtain⟨_,_,_,y0,_⟩:=HC.out w2 hB3
      rw[<-hY] at y0
      clear cA2 hB2 hcell hY
      go_wp2_with (go_at_call 100;refine(cF _).mono ?_;rintro e w' ⟨rfl,rfl⟩)
      go_roundw
      case rel=>exact⟨Z,k+1,rfl,by go_num,by omega,hB3,HX2⟩
      case measure=>simp[intOf];omega
    ·have hkk:k=l[n].needs.length:=by omega
     have HR2:Hid (X.data.toList=(l.take (n+1)).foldl (M.Z9h l) []):=by
      have h:=HX.out
      rw[hkk,List.take_length] at h
      show _ = _
      rw[Zd2 _ _ hlt,<-HR.out,h]
      rfl
     clear hkk HX
     go_wp2
     go_roundw
     case rel=>exact⟨X,n+1,rfl,by go_num,by omega,hBk,HR2⟩
     case measure=>simp[intOf];omega
  ·have hnn:n=l.length:=by omega
   have HE:Hid (T.data.toList=M.Za2 l):=by
    have h:=HR.out
    rw[hnn,List.take_length] at h
    exact h
   go_wp2
   go_ret
   exact⟨_,rfl,HE.out,hBr⟩
theorem Zyo{w:World}{g o c:Nat}{p:M.Pk}(h:Zgl w g o p)(hc:1<=c):Zbc w (.slice (some ⟨g,o,none⟩) 1 c) [p]:=by
 have hg:g<w.heap.size:=by
  obtain⟨_,_,_,h0,_⟩:=h
  exact World.block_lt_of_cell? _ _ h0
 refine .inr ⟨g,o,c,rfl,hc,hg,fun i q hq=>?_⟩
 cases i with
 | zero=>simp at hq;subst hq;simpa using h
 | succ i=>simp at hq
theorem Zxk(lv:Value)(l:List M.Pk)(w:World)(hl:Zbc w lv l)(hln:l.length<=1000000)(hs:∀ p∈l,Zdk p):
 Calls Tryz.prog 97 #[lv] w fun e w'=>∃ T:ByteArray,e=.returned (.string T)/\T.data.toList=M.Zbg l/\Below w.heap.size w w':=by
 obtain⟨al,cl,el⟩:=hl.form
 subst el
 have HL:=hid hl
 have HS:=hid hs
 clear hl hs
 go_enter Tryz.func97,Tryz.ntmps97
 go_wp2
 go_loopw [3,4,5,6] (fun t i _ _ wr=>∃ (T:ByteArray) (n:Nat),t=.string T/\i=.int .i64 n/\n<=l.length/\Below w.heap.size w wr/\Hid (T.data.toList=(List.range n).foldl (M.Yc5 l) [])) (fun _ i _ _ _=>l.length-(intOf i).toNat)
 case atStart=>exact⟨⟨#[]⟩,0,rfl,rfl,Nat.zero_le _,Below.refl _ _,rfl⟩
 case round=>
  obtain⟨T,n,rfl,rfl,hn,hBr,HR⟩:=hrel
  by_cases hlt:n<l.length
  ·have hsp:=HS.out _ (List.getElem_mem hlt)
   obtain⟨bl,off,rfl,_,hcapl,_⟩:=HL.out.cells hlt
   have HC:Hid (∀ W,Below w.heap.size w W->∀ j (hj:j<l.length),Zgl W bl (off+j*5) l[j]):=fun W hb j hj=>by
    obtain⟨_,_,e,_,_,h⟩:=(HL.out.below hb).cells hj
    cases e
    exact h
   obtain⟨_,bv,_,_,_,_,q3,_,_,hN,_⟩:=HC.out w (Below.refl _ _) n hlt
   obtain⟨an,cn,en⟩:=hN.form
   subst en
   have HQ3:=hid q3
   have HN:=hid hN
   have hbl:bl<w.heap.size:=World.block_lt_of_cell? _ _ q3
   clear q3 hN
   obtain⟨W0,hW0⟩:∃ W,W=wr:=⟨_,rfl⟩
   subst hW0
   go_wp2
   go_loopw [3,5,6] (fun t j _ wr=>∃ (X:ByteArray) (k:Nat),t=.string X/\j=.int .i64 k/\k<=l.length/\Below w.heap.size w wr/\Hid (X.data.toList=(List.range k).foldl (M.Z9s l n l[n]) T.data.toList)) (fun _ j _ _=>l.length-(intOf j).toNat)
   case atStart=>exact⟨T,0,rfl,rfl,Nat.zero_le _,hBr,rfl⟩
   case round=>
    obtain⟨X,k,rfl,rfl,hk,hBk,HX⟩:=hrel
    have c3:wr.cell? ⟨bl,off+n*5+3,none⟩=some (.slice an l[n].bars.length cn):=(hBk.cell (p:=⟨bl,off+n*5+3,none⟩) hbl).trans HQ3.out
    by_cases hlk:k<l.length
    ·have cA:=fun wx c (hb:Below wr.heap.size wr wx) (hc:1<=c)=>Zlh (.slice an l[n].bars.length cn) (.slice (some ⟨bl,off+k*5,none⟩) 1 c) l[n].bars [l[k]] wx ((HN.out.keep fun g' o' _ hg'=>Zcb (bt hBk hb) hg').wide (Nat.zero_le _) (bt hBk hb).size) (Zyo (HC.out wx (bt hBk hb) k hlk) hc) hsp.barn (by simp) hsp.bars (fun p hp=>by simp at hp;subst hp;exact(HS.out _ (List.getElem_mem hlk)).ver)
     have HG:Hid (∀ n',M.Z9s l n l[n] n' k=if M.Zeb l[n].bars [l[k]]=true/\k≠n then M.Zc5 n' l[n].name else n'):=fun n'=>by
      unfold M.Z9s
      rw[List.getElem?_eq_getElem hlk]
     have hBd:Below wr.heap.size wr wr.drew:=Zae wr 1
     have hcc:1<=cl-k:=by omega
     have b1:(0:Int)<=(k:Int):=by omega
     have b2:(k:Int)<=(k:Int)+1:=by omega
     have b3:(k:Int)+1<=(cl:Int):=by omega
     have b4:(0:Int)<=(k:Int)+1:=by omega
     have hw1:IntKind.i64.wrap ((k:Int)+1)=(k:Int)+1:=by rw[IntKind.wrap_i64];omega
     have hck:¬ cl=k:=by omega
     have ht1:((k:Int)+1).toNat-k=1:=by omega
     have ht2:k<=((k:Int)+1).toNat:=by omega
     have cA2:=cA _ _ hBd hcc
     clear cA
     obtain⟨Y,hY⟩:∃ Y:ByteArray,Y=⟨l[n].name.toArray⟩:=⟨_,rfl⟩
     have HY:Hid (Y.data.toList=l[n].name):=by show _ = _;rw[hY]
     have HYC:Hid (∀ W,Below w.heap.size w W->W.cell? ⟨bl,off+n*5,none⟩=some (.string Y)):=fun W hb=>by
      obtain⟨_,_,_,y0,_⟩:=HC.out W hb n hlt
      rw[hY];exact y0
     clear hY
     cases hA:M.Zeb l[n].bars [l[k]] with
     | false=>
      have HX2:Hid (X.data.toList=(List.range (k+1)).foldl (M.Z9s l n l[n]) T.data.toList):=by
       show _ = _
       rw[Zdb,<-HX.out,HG.out,if_neg (by rw[hA];simp)]
      rw[hA] at cA2
      clear hA
      go_wp2_with fail
      go_region_with (go_at_call 144;refine cA2.mono ?_;rintro e w2 ⟨rfl,hB2⟩)
      all_goals
       have hB3:Below w.heap.size w w2:=bt hBk (bt hBd hB2)
       clear hB2
       go_wp2
       go_roundw
       case rel=>exact⟨X,k+1,rfl,by go_num,by omega,hB3,HX2⟩
       case measure=>simp[intOf];omega
     | true=>
      rw[hA] at cA2
      by_cases hkn:k=n
      ·have HX2:Hid (X.data.toList=(List.range (k+1)).foldl (M.Z9s l n l[n]) T.data.toList):=by
        show _ = _
        rw[Zdb,<-HX.out,HG.out,if_neg (fun h=>h.2 hkn)]
       have hkb:((k:Int) != n)=false:=by simp;omega
       have HKN:=hid hkn
       clear hA hkn
       go_wp2_with fail
       go_region_with (go_at_call 144;refine cA2.mono ?_;rintro e w2 ⟨rfl,hB2⟩)
       all_goals
        have hB3:Below w.heap.size w w2:=bt hBk (bt hBd hB2)
        clear hB2
        go_wp2
        go_roundw
        case rel=>exact⟨X,k+1,rfl,by go_num,by omega,hB3,HX2⟩
        case measure=>simp[intOf];omega
      ·have HX2:Hid ((Zcu X Y).data.toList=(List.range (k+1)).foldl (M.Z9s l n l[n]) T.data.toList):=by
        show _ = _
        rw[Zdb,<-HX.out,HG.out,if_pos ⟨hA,hkn⟩,<-HY.out]
        rfl
       have hkb:((k:Int) != n)=true:=by simp;omega
       have cF:=fun wx=>Zhi X Y wx
       generalize Zcu X Y=Z at cF HX2
       clear hA
       go_wp2_with fail
       go_region_with (go_at_call 144;refine cA2.mono ?_;rintro e w2 ⟨rfl,hB2⟩)
       all_goals
        have hB3:Below w.heap.size w w2:=bt hBk (bt hBd hB2)
        have y0:=HYC.out w2 hB3
        clear hB2
        go_wp2_with (go_at_call 100;refine(cF _).mono ?_;rintro e w' ⟨rfl,rfl⟩)
        go_roundw
        case rel=>exact⟨Z,k+1,rfl,by go_num,by omega,hB3,HX2⟩
        case measure=>simp[intOf];omega
    ·have hkk:k=l.length:=by omega
     have HR2:Hid (X.data.toList=(List.range (n+1)).foldl (M.Yc5 l) []):=by
      have h:=HX.out
      rw[hkk] at h
      show _ = _
      rw[Zdb,<-HR.out,h]
      unfold M.Yc5
      rw[List.getElem?_eq_getElem hlt]
     clear hkk HX
     go_wp2
     go_roundw
     case rel=>exact⟨X,n+1,rfl,by go_num,by omega,hBk,HR2⟩
     case measure=>simp[intOf];omega
  ·have hnn:n=l.length:=by omega
   have HE:Hid (T.data.toList=M.Zbg l):=by
    have h:=HR.out
    rw[hnn] at h
    exact h
   go_wp2
   go_ret
   exact⟨_,rfl,HE.out,hBr⟩
end Go.Proofs.YtgnfknjopafngabGreatDoor
