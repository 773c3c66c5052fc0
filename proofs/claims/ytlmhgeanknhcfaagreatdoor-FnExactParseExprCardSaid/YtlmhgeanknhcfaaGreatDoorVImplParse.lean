/-
  ImplParse
-/
import Derived.Test.YtlmhgeanknhcfaaGreatDoorB16
import Derived.Test.YtlmhgeanknhcfaaGreatDoorB33
import Derived.Test.YtlmhgeanknhcfaaGreatDoorB40
import Derived.Test.YtlmhgeanknhcfaaGreatDoorVXtParseExpr
namespace Go.Proofs.YtlmhgeanknhcfaaGreatDoor.ParI
set_option maxHeartbeats 8000000
set_option maxRecDepth 10000
open Go.RowKit
open Strs Tree Gram Placed
open Go.Proofs.YtlmhgeanknhcfaaGreatDoor.Parser
def z6f (a:Option E) (w:World) (e:Ending) (w':World):Prop:=
 ∃ t:T,e=.returned (.tuple #[agg t,.bool a.isSome])/\toE t=a.getD SpecParse.zww/\Own w.heap.size w' t/\Below w.heap.size w w'
theorem zpk (s:ByteArray) (w:World) (hM:Max w):
  Calls Tryz.prog 8 #[.string s] w (z6f (SpecParse.answer s) w):=by
 have hmf:∀ (fn:Fn) (first cap:Array Value) (w:World),(Instr.makeFunc fn first cap).run Tryz.prog w=.ok (.func fn first cap) w:=fun _ _ _ _=>rfl
 have hnot:∀ (x:Bool) (w:World),(Op.unary .not (.bool x)).run Tryz.prog w=.ok (.bool (!x)) w:=fun _ _=>rfl
 have hb0:Below w.heap.size w (w.alloc (.cells #[.int .i64 0,.string ⟨#[]⟩,.int .i64 0,.slice none 0 0,.slice none 0 0] 25)):=(zB _ _).alloc (zL _) _;have hw0:(w.alloc (.cells #[.int .i64 0,.string ⟨#[]⟩,.int .i64 0,.slice none 0 0,.slice none 0 0] 25)).heap.size=w.heap.size+1:=by simp
 have hb1:Below (w.alloc (.cells #[.int .i64 0,.string ⟨#[]⟩,.int .i64 0,.slice none 0 0,.slice none 0 0] 25)).heap.size (w.alloc (.cells #[.int .i64 0,.string ⟨#[]⟩,.int .i64 0,.slice none 0 0,.slice none 0 0] 25)) ((w.alloc (.cells #[.int .i64 0,.string ⟨#[]⟩,.int .i64 0,.slice none 0 0,.slice none 0 0] 25)).alloc (.cells #[.int .i64 0,.string ⟨#[]⟩,.int .i64 0,.slice none 0 0,.slice none 0 0] 25)):=(zB _ _).alloc (zL _) _
 have hb2:=hb0.trans (hb1.mono hb0.size);have hz:=(zcd w 25).step hb1;have hze:=zcd (w.alloc (.cells #[.int .i64 0,.string ⟨#[]⟩,.int .i64 0,.slice none 0 0,.slice none 0 0] 25)) 25;rw[hw0] at hze;have hs2:((w.alloc (.cells #[.int .i64 0,.string ⟨#[]⟩,.int .i64 0,.slice none 0 0,.slice none 0 0] 25)).alloc (.cells #[.int .i64 0,.string ⟨#[]⟩,.int .i64 0,.slice none 0 0,.slice none 0 0] 25)).heap.size=w.heap.size+2:=by simp
 have KA:=zH (zvb s _ (hM.keep hb2) hze);have HB2:=zH hb2;have HZ:=zH hz;have HS2:=zH hs2;have HA:Hid (SpecParse.answer s=match Gram.source s with|none=>none|some e=>if zdm e=true then some e else none):=zH rfl
 have HLI:=zH (fun e h=>Gram.zjk (s:=s) (e:=e) h)
 clear hM hb0 hw0 hb1 hb2 hz hze hs2;generalize SpecParse.answer s=A at *;go_enter Tryz.func8,Tryz.ntmps8;go_wp2_with fail
 refine KA.out.mono ?_;rintro e w3 ⟨rfl,hgr,hval⟩;have ht:za2 ⟨w.heap.size+1,none,0,[]⟩ ((w.alloc (.cells #[.int .i64 0,.string ⟨#[]⟩,.int .i64 0,.slice none 0 0,.slice none 0 0] 25)).alloc (.cells #[.int .i64 0,.string ⟨#[]⟩,.int .i64 0,.slice none 0 0,.slice none 0 0] 25)) w3:=hgr;have hs3:=ht.size;rw[HS2.out] at hs3;have HZ3:=zH (HZ.out.turn ht (by simp));have HB3:=zH (zhz HB2.out ht (by simp) HB2.out.size)
 rw[HS2.out] at hval;clear ht hgr KA HB2 HZ;cases hsrc:Gram.source s with
 | none=>
  have HA2:Hid (A=none):=zH (by rw[HA.out,hsrc]);obtain ⟨hszz,y0,y1,y2,y3,y4,yfz⟩:=HZ3.out;have e1:(none:Option E).isSome=false:=rfl;clear hsrc hval HA HLI HS2;go_wp2_with fail
  have hb9:=zai (zB w.heap.size w3) (B:=w.heap.size) (zL _) (.int .i64 0) (.string ⟨#[]⟩) (.int .i64 0) (.slice none 0 0) (.slice none 0 0);refine bodyPost_ret (v:=.tuple #[.agg #[.int .i64 0,.string ⟨#[]⟩,.int .i64 0,.slice none 0 0,.slice none 0 0],.bool false]) (by simp[results,Tryz.results8,go_sem, *]) rfl ?_;exact ⟨.mk 0 ⟨#[]⟩ 0 [] (.slice none 0 0) (.slice none 0 0) [],by rw[HA2.out];rfl,by rw[HA2.out];rfl,zih (by rfl) (by rfl) (Nat.zero_le _),HB3.out.trans hb9⟩
 | some t0=>
  obtain ⟨t,hte,ho,hf⟩:=hval t0 hsrc;have hr:=ho.reads
  have hsoft:TreeTo.z4k (w.heap.size+2) w3 t0 (agg t):=by rw[<-hte];exact ⟨_,_,_,_,_,rfl,Good.soft t ho.good ho.lo⟩
  rw[hte] at hr;have KI:=zH (ImplRight.zml hr hsoft (Nat.le_trans (HLI.out t0 hsrc) (by decide)));have HA2:Hid (A=if zdm t0=true then some t0 else none):=zH (by rw[HA.out,hsrc])
  have e1:(some t0).isSome=true:=rfl;clear hsrc hval HA HLI HS2;obtain ⟨ua,uc,ub,ud,hf1,hf2⟩:=zbm ho.good;obtain ⟨uk,ut,un,uns,uvn,uvk,uks⟩:=t;simp only[T.vn,T.vk,T.names,T.kids] at hf1 hf2;subst hf1 hf2;unfold agg at KI;simp only[T.kind,T.text,T.num,T.vn,T.vk] at KI hf;have HO:=zH ho;have HF:=zH hf;have HTE:=zH hte;obtain ⟨hs5,f0,f1,f2,f3,f4,ffz⟩:=hf;clear ho hr hsoft hte;generalize zdm t0=b at *
  cases b with
  | false=>
   rw[if_neg (by simp)] at HA2;go_wp2_with fail
   refine KI.out.mono ?_;rintro e w4 ⟨rfl,hb4⟩;have HB4:=zH (HB3.out.trans (hb4.mono HB3.out.size));obtain ⟨hszz,y0,y1,y2,y3,y4,yfz⟩:=HZ3.out.step hb4;clear hb4 KI f0 f1 f2 f3 f4 ffz;go_wp2_with fail
   have hb9:=zai (zB w.heap.size w4) (B:=w.heap.size) (zL _) (.int .i64 0) (.string ⟨#[]⟩) (.int .i64 0) (.slice none 0 0) (.slice none 0 0);refine bodyPost_ret (v:=.tuple #[.agg #[.int .i64 0,.string ⟨#[]⟩,.int .i64 0,.slice none 0 0,.slice none 0 0],.bool false]) (by simp[results,Tryz.results8,go_sem, *]) rfl ?_;exact ⟨.mk 0 ⟨#[]⟩ 0 [] (.slice none 0 0) (.slice none 0 0) [],by rw[HA2.out];rfl,by rw[HA2.out];rfl,zih (by rfl) (by rfl) (Nat.zero_le _),HB4.out.trans hb9⟩
  | true=>
   rw[if_pos rfl] at HA2;go_wp2_with fail
   refine KI.out.mono ?_;rintro e w4 ⟨rfl,hb4⟩;have HB4:=zH (HB3.out.trans (hb4.mono HB3.out.size));obtain ⟨hszz,y0,y1,y2,y3,y4,yfz⟩:=HZ3.out.step hb4;have HO4:=zH (HO.out.below hb4);obtain ⟨gs5,g0,g1,g2,g3,g4,gfz⟩:=HF.out.step hb4;clear hb4 KI f0 f1 f2 f3 f4 ffz;go_wp2_with fail
   have hb9:=zai (zB w.heap.size w4) (B:=w.heap.size) (zL _) (.int .i64 uk) (.string ut) (.int .i64 un) (.slice ua uns.length uc) (.slice ub uks.length ud);refine bodyPost_ret (v:=.tuple #[.agg #[.int .i64 uk,.string ut,.int .i64 un,.slice ua uns.length uc,.slice ub uks.length ud],.bool true]) (by simp[results,Tryz.results8,go_sem, *]) rfl ?_;exact ⟨.mk uk ut un uns (.slice ua uns.length uc) (.slice ub uks.length ud) uks,by rw[HA2.out];rfl,by rw[HA2.out];exact HTE.out,(Own.zgq HO4.out (B:=w.heap.size) (fun hm=>by have:=HO4.out.lo _ hm;omega) _ _ _ _ _).mono (by omega),HB4.out.trans hb9⟩
end Go.Proofs.YtlmhgeanknhcfaaGreatDoor.ParI
