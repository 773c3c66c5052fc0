/-
  ImplParseM
-/
import Derived.Test.YtlmhgeanknhcfaaGreatDoorB16
import Derived.Test.YtlmhgeanknhcfaaGreatDoorVParAllM
import Derived.Test.YtlmhgeanknhcfaaGreatDoorB34
import Derived.Test.YtlmhgeanknhcfaaGreatDoorB41
import Derived.Test.YtlmhgeanknhcfaaGreatDoorB18
import Derived.Test.YtlmhgeanknhcfaaGreatDoorVXtParseMethod
namespace Go.Proofs.YtlmhgeanknhcfaaGreatDoor.ParI
set_option maxHeartbeats 16000000
set_option maxRecDepth 10000
open Go.RowKit
open Strs Tree Gram Errs
open Go.Proofs.YtlmhgeanknhcfaaGreatDoor.Parser
open Go.Proofs.YtlmhgeanknhcfaaGreatDoor.Data (D Cells Exc zaa strs zhe zbc za8 zcx zbj zde zay M C U val zae)
def gM (N:Nat) (r:R):Option (M×R):=Gram.method (expr (N+1)) r
theorem yeo (s:ByteArray):zgn gM s=SpecParse.zdq s:=by
 unfold zgn SpecParse.zdq gM;cases Tok.tokens s with
 | none=>rfl
 | some ts=>
  simp only;cases Gram.method (expr (ts.length+1)) ts with
  | none=>rfl
  | some y=>
   obtain ⟨m,r⟩:=y;cases r with
   | nil=>rfl
   | cons a b=>rfl
theorem ybs {P:Cst} {w:World} {eb:Nat} (h:IS P 0 w) (hz:Cells eb (mD ⟨#[]⟩ false (.slice none 0 0) (.slice none 0 0) (.slice none 0 0)) w) (hzf:∀ o,w.frozen? ⟨eb,o,none⟩=false) (hne:eb<P.pb):
  Calls Tryz.prog 52 #[.pointer (some ⟨P.pb,0,none⟩),.pointer (some ⟨eb,0,none⟩)] w (z9d zbc gM P eb w):=by
 have KX:=zH (zj0 (n:=P.toks.length+1) h (Nat.lt_succ_self _));have HZ:=zH hz;have HZF:=zH hzf;have HG:Hid (gM P.toks.length (rest P 0)=Gram.method (expr (P.toks.length+1)) (rest P 0)):=zH rfl;clear h hz hzf;generalize hpb:P.pb=pb at *;have HPB:=zH hpb;clear hpb;generalize Gram.method (expr (P.toks.length+1)) (rest P 0)=G at *;go_enter Tryz.func52,Tryz.ntmps52;go_wp2_with fail
 refine KX.out.mono ?_;rintro e w1 (⟨ds,m,q,rfl,he,ho,hi,ht,hg⟩|⟨⟨v,rfl⟩,ht,hg⟩)
 case inr=>
  have HGG:=zH hg;have HT:=zH (Data.zb4 ht [P.pb,eb] (by simp));clear hg ht KX;go_wp2_with fail
  exact ⟨rfl,.inr ⟨⟨_,rfl⟩,HT.out,by rw[HG.out,HGG.out]⟩⟩
 obtain ⟨x2,n2,k2,x3,n3,k3,x4,n4,k4,hv⟩:=zj6 he ho.good;have hx:=Data.zb4 ht [P.pb] (by simp);have hnb:eb∉[P.pb]:=by simp;rw[HPB.out];omega
 have hz1:=hx.cells HZ.out hnb;have fz:=zc4 HZF.out HZ.out.1 hx hnb;have z0:=hz1.at 0 (.str ⟨#[]⟩) rfl;have z1:=hz1.at 1 (.bool false) rfl;have z2:=hz1.at 2 (.row 0 1 (.slice none 0 0) []) rfl;have z3:=hz1.at 3 (.row 0 1 (.slice none 0 0) []) rfl;have z4:=hz1.at 4 (.row 0 5 (.slice none 0 0) []) rfl;simp only[val] at z0 z1 z2 z3 z4;rw[show Data.agg ds=.agg #[.string m.sel,.bool m.cls,.slice x2 n2 k2,.slice x3 n3 k3,.slice x4 n4 k4] by unfold Data.agg;rw[hv]]
 have HX:=zH (Data.zb4 ht [P.pb,eb] (by simp));have HO:=zH ho;have HI:=zH hi;have HE:=zH he;have HGG:=zH hg;have HV:=zH hv;have HZ1:=zH hz1;clear ho hi ht hg he hv hx hnb hz1 KX;go_wp2_with fail
 go_end0
 have hce:=zq8 ds [] (mD ⟨#[]⟩ false (.slice none 0 0) (.slice none 0 0) (.slice none 0 0)) w1 HZ1.out (by have e:=Data.zfj ds;rw[HV.out] at e;exact e) fz;rw[HV.out] at hce;obtain ⟨ca,cc,hcell⟩:=HI.out.cell;exact .inl ⟨m,ds,q,rfl,HE.out,Data.Own.zno HZ.out.1 [.string m.sel,.bool m.cls,.slice x2 n2 k2,.slice x3 n3 k3,.slice x4 n4 k4] w1 0 HO.out,hce,⟨HI.out.le,ca,cc,(World.cell?_of_block (a:=⟨P.pb,0,none⟩) (zu4 (x:=P.pb) (by rw[HPB.out];omega) [.string m.sel,.bool m.cls,.slice x2 n2 k2,.slice x3 n3 k3,.slice x4 n4 k4] w1 0)).trans hcell⟩,zy3 HX.out (by simp) [.string m.sel,.bool m.cls,.slice x2 n2 k2,.slice x3 n3 k3,.slice x4 n4 k4] 0,by rw[HG.out,HGG.out]⟩
theorem yc7 (s:ByteArray) (w:World) (hM:Max w) {a:Addr} (he:Err w a):
  Calls Tryz.prog 18 #[.string s] w fun r w'=>∃ es,r=.returned (.tuple #[Data.agg es,.bool (SpecParse.zdo s).isSome])/\zaa es=zbc ((SpecParse.zdo s).getD SpecParse.zka)/\Data.Own w.heap.size w' es/\Below w.heap.size w w':=by
 have hmf:∀ (fn:Fn) (first cap:Array Value) (w:World),(Instr.makeFunc fn first cap).run Tryz.prog w=.ok (.func fn first cap) w:=fun _ _ _ _=>rfl
 have hb0:Below w.heap.size w (w.alloc (.cells #[.string ⟨#[]⟩,.bool false,.slice none 0 0,.slice none 0 0,.slice none 0 0] 41)):=(zB _ _).alloc (zL _) _;have hw0:(w.alloc (.cells #[.string ⟨#[]⟩,.bool false,.slice none 0 0,.slice none 0 0,.slice none 0 0] 41)).heap.size=w.heap.size+1:=by simp
 have hb1:Below (w.alloc (.cells #[.string ⟨#[]⟩,.bool false,.slice none 0 0,.slice none 0 0,.slice none 0 0] 41)).heap.size (w.alloc (.cells #[.string ⟨#[]⟩,.bool false,.slice none 0 0,.slice none 0 0,.slice none 0 0] 41)) ((w.alloc (.cells #[.string ⟨#[]⟩,.bool false,.slice none 0 0,.slice none 0 0,.slice none 0 0] 41)).alloc (.cells #[.string ⟨#[]⟩,.bool false,.slice none 0 0,.slice none 0 0,.slice none 0 0] 41)):=(zB _ _).alloc (zL _) _
 have hb2:=hb0.trans (hb1.mono hb0.size);have hz:=(zae w (mD ⟨#[]⟩ false (.slice none 0 0) (.slice none 0 0) (.slice none 0 0)) 41).step hb1;have hzf:∀ o,((w.alloc (.cells #[.string ⟨#[]⟩,.bool false,.slice none 0 0,.slice none 0 0,.slice none 0 0] 41)).alloc (.cells #[.string ⟨#[]⟩,.bool false,.slice none 0 0,.slice none 0 0,.slice none 0 0] 41)).frozen? ⟨w.heap.size,o,none⟩=false:=fun o=>by go_simp
 have hze:=zae (w.alloc (.cells #[.string ⟨#[]⟩,.bool false,.slice none 0 0,.slice none 0 0,.slice none 0 0] 41)) (mD ⟨#[]⟩ false (.slice none 0 0) (.slice none 0 0) (.slice none 0 0)) 41;have hzef:∀ o,((w.alloc (.cells #[.string ⟨#[]⟩,.bool false,.slice none 0 0,.slice none 0 0,.slice none 0 0] 41)).alloc (.cells #[.string ⟨#[]⟩,.bool false,.slice none 0 0,.slice none 0 0,.slice none 0 0] 41)).frozen? ⟨(w.alloc (.cells #[.string ⟨#[]⟩,.bool false,.slice none 0 0,.slice none 0 0,.slice none 0 0] 41)).heap.size,o,none⟩=false:=fun o=>by go_simp
 rw[hw0] at hze hzef;have hs2:((w.alloc (.cells #[.string ⟨#[]⟩,.bool false,.slice none 0 0,.slice none 0 0,.slice none 0 0] 41)).alloc (.cells #[.string ⟨#[]⟩,.bool false,.slice none 0 0,.slice none 0 0,.slice none 0 0] 41)).heap.size=w.heap.size+2:=by simp
 have KA:=z2c zbc gM s _ (hM.keep hb2) hze hzef (fun P w3 h1 h2 h3 h4 _=>ybs h1 h2 h3 h4)
 unfold zjo at KA;rw[yeo] at KA;replace KA:=zH KA;have HB2:=zH hb2;have HZ:=zH hz;have HZF:=zH hzf;have HS2:=zH hs2;have HER:=zH he;have HA:Hid (SpecParse.zdo s=match SpecParse.zdq s with|none=>none|some m=>if Data.zbi m=true then some m else none):=zH rfl
 have HLI:=zH (fun e h=>SpecParse.zgi (s:=s) (m:=e) h)
 clear hM hb0 hw0 hb1 hb2 hz hzf hze hzef hs2 he;generalize SpecParse.zdo s=A at *;go_enter Tryz.func18,Tryz.ntmps18;go_wp2_with fail
 refine KA.out.mono ?_;rintro e w3 ⟨rfl,hgr,hval⟩;have ht:za2 ⟨w.heap.size+1,none,0,[]⟩ ((w.alloc (.cells #[.string ⟨#[]⟩,.bool false,.slice none 0 0,.slice none 0 0,.slice none 0 0] 41)).alloc (.cells #[.string ⟨#[]⟩,.bool false,.slice none 0 0,.slice none 0 0,.slice none 0 0] 41)) w3:=hgr;have hs3:=ht.size;rw[HS2.out] at hs3;have HZ3:=zH (Cells.turn HZ.out ht (by simp));have HZF3:=zH (zc0 HZF.out HZ.out.1 ht (by simp))
 have HB3:=zH (zhz HB2.out ht (by simp) HB2.out.size);have HER3:=zH (HER.out.keep HB3.out);rw[HS2.out] at hval;clear ht hgr KA HB2 HZ HZF HER;cases hsrc:SpecParse.zdq s with
 | none=>
  have HA2:Hid (A=none):=zH (by rw[HA.out,hsrc]);have fz:=HZF3.out;have y0:=HZ3.out.at 0 (.str ⟨#[]⟩) rfl;have y1:=HZ3.out.at 1 (.bool false) rfl;have y2:=HZ3.out.at 2 (.row 0 1 (.slice none 0 0) []) rfl;have y3:=HZ3.out.at 3 (.row 0 1 (.slice none 0 0) []) rfl;have y4:=HZ3.out.at 4 (.row 0 5 (.slice none 0 0) []) rfl;simp only[val] at y0 y1 y2 y3 y4;have e1:(none:Option M).isSome=false:=rfl;clear hsrc hval HA HLI HS2
  go_wp2_with fail
  have hb9:=Data.zbl (zL w.heap.size) [.string ⟨#[]⟩,.bool false,.slice none 0 0,.slice none 0 0,.slice none 0 0] w3 w3 0 (zB _ _);refine bodyPost_ret (v:=.tuple #[.agg #[.string ⟨#[]⟩,.bool false,.slice none 0 0,.slice none 0 0,.slice none 0 0],.bool false]) (by simp[results,Tryz.results18,go_sem, *]) rfl ?_;exact ⟨[.str ⟨#[]⟩,.bool false,.row 9 1 (.slice none 0 0) (strs []),.row 9 1 (.slice none 0 0) (strs []),.row 25 5 (.slice none 0 0) (zhe [])],by rw[HA2.out];rfl,by rw[HA2.out];rfl,zow,HB3.out.trans hb9⟩
 | some m=>
  obtain ⟨ds,hde,ho,hcl⟩:=hval m hsrc;obtain ⟨x2,n2,k2,x3,n3,k3,x4,n4,k4,hv⟩:=zj6 hde ho.good;have KI:=ImplMeth.z6l hde (ho.mono (Nat.zero_le _)) (by have h1:=HLI.out m hsrc;rw[hde];rw[Data.zc1];omega) HER3.out;rw[show Data.agg ds=.agg #[.string m.sel,.bool m.cls,.slice x2 n2 k2,.slice x3 n3 k3,.slice x4 n4 k4] by unfold Data.agg;rw[hv]] at KI
  replace KI:=zH KI;have hcl2:Cells (w.heap.size+1) [.str m.sel,.bool m.cls,.row 0 1 (.slice x2 n2 k2) [],.row 0 1 (.slice x3 n3 k3) [],.row 0 5 (.slice x4 n4 k4) []] w3:=zq4 hcl hv;have HA2:Hid (A=if Data.zbi m=true then some m else none):=zH (by rw[HA.out,hsrc])
  have e1:(some m).isSome=true:=rfl;have f0:=hcl2.at 0 (.str m.sel) rfl;have f1:=hcl2.at 1 (.bool m.cls) rfl;have f2:=hcl2.at 2 (.row 0 1 (.slice x2 n2 k2) []) rfl;have f3:=hcl2.at 3 (.row 0 1 (.slice x3 n3 k3) []) rfl;have f4:=hcl2.at 4 (.row 0 5 (.slice x4 n4 k4) []) rfl;simp only[val] at f0 f1 f2 f3 f4;have HO:=zH ho;have HDE:=zH hde;have HV:=zH hv;have HCL:=zH hcl2;clear ho hcl hcl2 hde hv hsrc hval HA HLI HS2
  generalize Data.zbi m=b at *;cases b with
  | false=>
   rw[if_neg (by simp)] at HA2;go_wp2_with fail
   refine KI.out.mono ?_;rintro e w4 ⟨rfl,hb4⟩;have HB4:=zH (HB3.out.trans (hb4.mono HB3.out.size));have hz4:=HZ3.out.step hb4;have fz:∀ o,w4.frozen? ⟨w.heap.size,o,none⟩=false:=fun o=>(hb4.frozen (p:=⟨w.heap.size,o,none⟩) HZ3.out.1).trans (HZF3.out o)
   have y0:=hz4.at 0 (.str ⟨#[]⟩) rfl;have y1:=hz4.at 1 (.bool false) rfl;have y2:=hz4.at 2 (.row 0 1 (.slice none 0 0) []) rfl;have y3:=hz4.at 3 (.row 0 1 (.slice none 0 0) []) rfl;have y4:=hz4.at 4 (.row 0 5 (.slice none 0 0) []) rfl;simp only[val] at y0 y1 y2 y3 y4;clear hb4 KI hz4 f0 f1 f2 f3 f4;go_wp2_with fail
   have hb9:=Data.zbl (zL w.heap.size) [.string ⟨#[]⟩,.bool false,.slice none 0 0,.slice none 0 0,.slice none 0 0] w4 w4 0 (zB _ _);refine bodyPost_ret (v:=.tuple #[.agg #[.string ⟨#[]⟩,.bool false,.slice none 0 0,.slice none 0 0,.slice none 0 0],.bool false]) (by simp[results,Tryz.results18,go_sem, *]) rfl ?_;exact ⟨[.str ⟨#[]⟩,.bool false,.row 9 1 (.slice none 0 0) (strs []),.row 9 1 (.slice none 0 0) (strs []),.row 25 5 (.slice none 0 0) (zhe [])],by rw[HA2.out];rfl,by rw[HA2.out];rfl,zow,HB4.out.trans hb9⟩
  | true=>
   rw[if_pos rfl] at HA2;go_wp2_with fail
   refine KI.out.mono ?_;rintro e w4 ⟨rfl,hb4⟩;have HB4:=zH (HB3.out.trans (hb4.mono HB3.out.size));have hz4:=HZ3.out.step hb4;have fz:∀ o,w4.frozen? ⟨w.heap.size,o,none⟩=false:=fun o=>(hb4.frozen (p:=⟨w.heap.size,o,none⟩) HZ3.out.1).trans (HZF3.out o)
   have HO4:=zH (HO.out.below hb4);have hc4:=HCL.out.step hb4;have y0:=hz4.at 0 (.str ⟨#[]⟩) rfl;have y1:=hz4.at 1 (.bool false) rfl;have y2:=hz4.at 2 (.row 0 1 (.slice none 0 0) []) rfl;have y3:=hz4.at 3 (.row 0 1 (.slice none 0 0) []) rfl;have y4:=hz4.at 4 (.row 0 5 (.slice none 0 0) []) rfl;simp only[val] at y0 y1 y2 y3 y4;have g0:=hc4.at 0 (.str m.sel) rfl;have g1:=hc4.at 1 (.bool m.cls) rfl
   have g2:=hc4.at 2 (.row 0 1 (.slice x2 n2 k2) []) rfl;have g3:=hc4.at 3 (.row 0 1 (.slice x3 n3 k3) []) rfl;have g4:=hc4.at 4 (.row 0 5 (.slice x4 n4 k4) []) rfl;simp only[val] at g0 g1 g2 g3 g4;clear hb4 KI hz4 hc4 f0 f1 f2 f3 f4;go_wp2_with fail
   have hb9:=Data.zbl (zL w.heap.size) [.string m.sel,.bool m.cls,.slice x2 n2 k2,.slice x3 n3 k3,.slice x4 n4 k4] w4 w4 0 (zB _ _);refine bodyPost_ret (v:=.tuple #[.agg #[.string m.sel,.bool m.cls,.slice x2 n2 k2,.slice x3 n3 k3,.slice x4 n4 k4],.bool true]) (by simp[results,Tryz.results18,go_sem, *]) rfl ?_;exact ⟨ds,by rw[HA2.out];unfold Data.agg;rw[HV.out];rfl,by rw[HA2.out];exact HDE.out,(Data.Own.zno (by omega:w.heap.size<w.heap.size+2) [.string m.sel,.bool m.cls,.slice x2 n2 k2,.slice x3 n3 k3,.slice x4 n4 k4] w4 0 HO4.out).mono (by omega),HB4.out.trans hb9⟩
end Go.Proofs.YtlmhgeanknhcfaaGreatDoor.ParI
