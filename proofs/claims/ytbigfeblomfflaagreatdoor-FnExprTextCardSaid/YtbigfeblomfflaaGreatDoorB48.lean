/-
  ParAll ImplParse
-/
import Derived.Test.YtbigfeblomfflaaGreatDoorB43
import Derived.Test.YtbigfeblomfflaaGreatDoorB28
set_option maxHeartbeats 8000000
set_option maxRecDepth 10000
namespace Go.Proofs.YtbigfeblomfflaaGreatDoor
namespace ParI
open Go.RowKit
open Strs Tree Gram Placed
open Go.Proofs.YtbigfeblomfflaaGreatDoor.Parser
theorem catch_panicking (p:Addr) (x:Bool) (pv:Value) (older:List PanicEntry) (w:World) (hc:w.cell? p=some (.bool x)) (hz:w.frozen? p=false):
  CallsD Tryz.prog 106 #[.pointer (some p)] (.panicking ({ v:=.iface 9 pv,recovered:=false }::older)) w fun e u' w'=>e=.returned (.tuple #[])/\u'=.panicking ({ v:=.iface 9 pv,recovered:=true }::older)/\w'=w.setCell p (.bool false):=by
 refine callsD_of_wpS Tryz.func106 rfl fun c₀ cs hu=>?_
 apply wpS_seq;apply wpS_region;simp[wpOpsS,go_sem,recoverD,hu,Tryz.ntmps106,Exit.thenS];refine wpS_cond (t:=true) (by simp[Act.eval,Array.replicate]) ?_;simp only[if_true];apply wpS_region;simp[wpOpsS,go_sem,hc,hz,bodyPostS,results,Tryz.results106]
theorem catch_idle (p:Addr) (w:World):
  CallsD Tryz.prog 106 #[.pointer (some p)] .returning w fun e u' w'=>e=.returned (.tuple #[])/\u'=.returning/\w'=w:=by
 refine callsD_of_wpS Tryz.func106 rfl fun c₀ cs hu=>?_
 apply wpS_seq;apply wpS_region;simp[wpOpsS,go_sem,recoverD,hu,Tryz.ntmps106,Exit.thenS];refine wpS_cond (t:=false) (by simp[Act.eval,Array.replicate]) ?_;simp only[Bool.false_eq_true,if_false];refine wpS_of_wp (wp_skip ?_);cases c₀
 simp_all [bodyPostS,results,Tryz.results106]
theorem reader_any {P:Cst} {w:World} {eb:Nat} (h:IS P 0 w) (hz:Zero eb w) (hne:eb≠P.pb):
  Calls Tryz.prog 47 #[.pointer (some ⟨P.pb,0,none⟩),.pointer (some ⟨eb,0,none⟩)] w fun e w'=>
   (∃ t q w1,e=.returned (.tuple #[])/\Own w.heap.size w1 t/\IS P q w1/\Turn P w w1/\w'=put5 w1 eb (.int .i64 t.kind) (.string t.text) (.int .i64 t.num) t.vn t.vk/\expr (P.toks.length+1) (rest P 0)=some (toE t,rest P q)) \/
   (Dead e/\Turn P w w'/\expr (P.toks.length+1) (rest P 0)=none):=by
 have KX:=zH (expr_any (P.toks.length+1) P 0 w h (by rw[zar];omega));have HZ:=zH hz;clear h hz;generalize hpb:P.pb=pb at *;have HPB:=zH hpb;clear hpb;generalize expr (P.toks.length+1) (rest P 0)=G at *;go_enter Tryz.func47,Tryz.ntmps47;go_wp2_with fail
 refine KX.out.mono ?_;rintro e w1 (⟨t,q,rfl,ho,h,ht,hg⟩|⟨⟨v,rfl⟩,ht,hg⟩)
 case inr=>
  have HG:=zH hg;have HT:=zH ht;clear hg ht KX;go_wp2_with fail
  exact ⟨rfl,.inr ⟨⟨_,rfl⟩,HT.out,HG.out⟩⟩
 obtain ⟨ua,uc,ub,ud,hf1,hf2⟩:=good_forms ho.good;obtain ⟨uk,ut,un,uns,uvn,uvk,uks⟩:=t;simp only[T.vn,T.vk,T.names,T.kids] at hf1 hf2;subst hf1 hf2;obtain ⟨hszz,y0,y1,y2,y3,y4,yfz⟩:=HZ.out.turn ht (by rw[HPB.out];exact hne);have HO:=zH ho;have HPS:=zH h;have HT:=zH ht;have HG:=zH hg;unfold agg;simp only[T.kind,T.text,T.num,T.vn,T.vk];clear ho h ht hg KX HZ;go_wp2_with fail
 go_end0
 exact .inl ⟨_,q,w1,rfl,HO.out,HPS.out,HT.out,rfl,HG.out⟩
structure OkC (B:Nat) (b:Bool) (w:World):Prop where
 size:B<w.heap.size
 z:w.cell? ⟨B,0,none⟩=some (.bool b)
 fz:w.frozen? ⟨B,0,none⟩=false
theorem OkC.same {B:Nat} {b:Bool} {w w':World} (h:OkC B b w) (hs:w.heap.size<=w'.heap.size) (hb:w'.heap[B]?=w.heap[B]?):OkC B b w':=
 ⟨Nat.lt_of_lt_of_le h.size hs,(World.cell?_of_block (a:=⟨B,0,none⟩) hb).trans h.z,(World.frozen?_of_block (a:=⟨B,0,none⟩) hb).trans h.fz⟩
theorem OkC.step {B:Nat} {b:Bool} {w w':World} (h:OkC B b w) (hb:Below w.heap.size w w'):OkC B b w':=h.same hb.size (hb.block B h.size)
theorem OkC.turn {P:Cst} {B:Nat} {b:Bool} {w w':World} (h:OkC B b w) (ht:Turn P w w') (hB:B≠P.pb):OkC B b w':=h.same ht.size (World.grownBy.block ht B h.size (by simpa using hB))
theorem okc_new (w:World) (b:Bool) (T:TypeId):OkC w.heap.size b (w.alloc (.cells #[.bool b] T)):=⟨by simp,by go_simp,by go_simp⟩
theorem okc_set {B:Nat} {b:Bool} {w:World} (h:OkC B b w) (b':Bool):OkC B b' (w.setCell ⟨B,0,none⟩ (.bool b')):=by obtain ⟨h1,h2,h3⟩:=h;refine ⟨by simpa using h1,?_,?_⟩<;>go_simp
theorem zero_five {B:Nat} {w:World} (h:Zero B w):Five B (.int .i64 0) (.string ⟨#[]⟩) (.int .i64 0) (.slice none 0 0) (.slice none 0 0) w:=⟨h.size,h.z0,h.z1,h.z2,h.z3,h.z4,h.fz⟩
theorem below_turn {P:Cst} {B:Nat} {a b c:World} (h:Below B a b) (k:Turn P b c) (hp:B<=P.pb) (hs:B<=b.heap.size):Below B a c:=
 h.trans ⟨k.os,k.tape,k.output,k.size,fun i hi=>World.grownBy.block k i (by omega) (by simp;omega)⟩
theorem below_grown {a b:World} (h:Below a.heap.size a b) (row:Option Nat):a.grownBy b row:=⟨h.os,h.tape,h.output,h.size,fun i hi _=>h.block i hi⟩
theorem below_grown5 {a b:World} {eb B:Nat} (h:Below a.heap.size a b) (v1 v2 v3 v4 v5 v6:Value) (hB:a.heap.size<=B):a.grownBy ((put5 b eb v1 v2 v3 v4 v5).setCell ⟨B,0,none⟩ v6) (some eb):=by have h0:Turn ⟨eb,none,0,[]⟩ a b:=(Turn.refl _ a).low h;have h5:Turn ⟨eb,none,0,[]⟩ a (put5 b eb v1 v2 v3 v4 v5):=((((h0.set 0 v1).set 1 v2).set 2 v3).set 3 v4).set 4 v5;exact h5.low ((zB _ _).setCell (by show a.heap.size<=B;exact hB) _)
theorem parse_rest {r r1:R} {e:E} (h:expr (r.length+1) r=some (e,r1)):parse r=if r1.length=0 then some e else none:=by
 unfold parse;rw[h];cases r1 with
 | nil=>rfl
 | cons t r=>rfl
theorem parse_dead {r:R} (h:expr (r.length+1) r=none):parse r=none:=by unfold parse;rw[h]
theorem toks_fit {P:Cst} {s:ByteArray} (h:Tok.tokens s=some P.toks) (h1:P.toks.length<=P.cap) (h2:P.cap<=maxLen):FitI P:=
 ⟨SpecParse.tok_fit h h1 h2,(Tok.tokens_fine s _ h).2.1,Tok.tokens_full s _ h⟩
def AllBack (s:ByteArray) (eb:Nat) (w:World) (e:Ending) (w':World):Prop:=
 e=.returned (.bool (Gram.source s).isSome)/\w.grownBy w' (some eb)/\∀ t0,Gram.source s=some t0->∃ t,toE t=t0/\Own w.heap.size w' t/\Five eb (.int .i64 t.kind) (.string t.text) (.int .i64 t.num) t.vn t.vk w'
theorem parseAll_any (s:ByteArray) (w:World) (hM:Max w) {eb:Nat} (hz:Zero eb w):
  Calls Tryz.prog 46 #[.string s,.func (.func 47) #[] #[.pointer (some ⟨eb,0,none⟩)]] w (AllBack s eb w):=by
 have hmf:∀ (fn:Fn) (first cap:Array Value) (w:World),(Instr.makeFunc fn first cap).run Tryz.prog w=.ok (.func fn first cap) w:=fun _ _ _ _=>rfl
 have hb0:Below w.heap.size w (w.alloc (.cells #[.bool false] 4)):=(zB _ _).alloc (zL _) _;have KT:=zH (ImplTokens.tokens_any s (w.alloc (.cells #[.bool false] 4)) (hM.keep hb0));have HOK:=zH (okc_new w false 4);have HZ:=zH (hz.step hb0);have HB0:=zH hb0;have hez:=hz.size;have hw0:(w.alloc (.cells #[.bool false] 4)).heap.size=w.heap.size+1:=by simp
 have HW0:=zH hw0;clear hb0 hz hM hw0
 go_enter_defers Tryz.func46,Tryz.ntmps46
 go_wp2_with fail
 refine KT.out.mono ?_;intro e w1 hread;cases hts:Tok.tokens s with
 | none=>
  rw[hts] at hread;obtain ⟨rfl,hb1⟩:=hread;have hsrc:Gram.source s=none:=by unfold Gram.source;rw[hts]
  have HB1:=zH (HB0.out.trans (hb1.mono (by rw[HW0.out];omega)));have HSRC:=zH hsrc;obtain ⟨o1,o2,o3⟩:=HOK.out.step hb1;clear hb1 KT hts hsrc;go_wp2_with fail
  refine ⟨.bool false,by simp[results,Tryz.results46,go_sem, *],?_⟩
  have hb9:Below w.heap.size w ((w1.setCell ⟨w.heap.size,0,none⟩ (.bool false)).setCell ⟨w.heap.size,0,none⟩ (.bool false)):=(HB1.out.setCell (by show w.heap.size<=w.heap.size;omega) _).setCell (by show w.heap.size<=w.heap.size;omega) _;exact ⟨by rw[HSRC.out];rfl,below_grown hb9 _,fun t0 h=>by (rw[HSRC.out] at h;cases h)⟩
 | some ts=>
  rw[hts] at hread;obtain ⟨v1,rfl,hown,hb1⟩:=hread;obtain ⟨ta,cap,rfl⟩:=Kit.zax hown;have hroom:=SpecParse.own_room hown;have hs1:w.heap.size+1<=w1.heap.size:=by rw[<-HW0.out];exact hb1.size
  have hbase:∀ b o,ta=some ⟨b,o,none⟩->w.heap.size+1<=b/\b<w1.heap.size:=fun b o e=>by subst e;have h1:=hown.lt b rfl;rw[HW0.out] at h1;exact h1
  have hok1:=HOK.out.step hb1;obtain ⟨P,hP⟩:∃ P:Cst,P=⟨w1.heap.size,ta,cap,ts⟩:=⟨_,rfl⟩;have hpbw:P.pb=w1.heap.size:=by rw[hP]
  have hfit:FitI P:=toks_fit (s:=s) (by rw[hP];exact hts) (by rw[hP];exact hroom.2.1) (by rw[hP];exact hroom.2.2);obtain ⟨w3,hw3⟩:∃ w3,w3=(w1.setCell ⟨w.heap.size,0,none⟩ (.bool true)).alloc (.cells #[.slice ta ts.length cap] 150):=⟨_,rfl⟩;have hb2:Below w.heap.size w1 (w1.setCell ⟨w.heap.size,0,none⟩ (.bool true)):=(zB _ _).setCell (by show w.heap.size<=w.heap.size;omega) _;have hsz2:(w1.setCell ⟨w.heap.size,0,none⟩ (.bool true)).heap.size=w1.heap.size:=by simp[World.setCell]
  have hba:Below (w1.setCell ⟨w.heap.size,0,none⟩ (.bool true)).heap.size (w1.setCell ⟨w.heap.size,0,none⟩ (.bool true)) w3:=by rw[hw3];exact (zB _ _).alloc (zL _) _
  have hps:IS P 0 w3:=by
   refine ⟨hfit,?_,Nat.zero_le _,?_,fun o=>?_,fun i t ht=>?_⟩
   ·rw[hpbw,hw3]
    simp
   ·refine ⟨ta,cap,?_,?_,hroom.2.2,fun hlt=>?_⟩
    ·rw[hpbw,hw3,hP]
     rw[<-hsz2]
     go_simp
    ·rw[hP];exact hroom.2.1
    ·rw[hP] at hlt
     obtain ⟨b,o,e,-⟩:=SpecParse.tok_cells hown 0 ts[0] (List.getElem?_eq_getElem hlt);rw[hP];exact ⟨b,o,e,by rw[e];rfl⟩
   ·rw[hpbw,hw3]
    rw[<-hsz2]
    go_simp
   ·rw[hP] at ht
    obtain ⟨b,o,e,hlt,d0,d1,d2⟩:=SpecParse.tok_cells hown i t ht;have h1:=hbase b o e;have hn:b≠w.heap.size:=by omega
    refine ⟨b,o,by rw[hP];exact e,by rw[hpbw];omega,cell_keep hba (other _ _ _ _ _ _ _ (.inl hn) d0),cell_keep hba (other _ _ _ _ _ _ _ (.inl hn) d1),cell_keep hba (other _ _ _ _ _ _ _ (.inl hn) d2)⟩
  have hz1:=HZ.out.step hb1;have hz3:Zero eb w3:=(hz1.same (by rw[hsz2];exact zL _) (set_heap w1 w.heap.size 0 (.bool true) (by omega))).step hba;have hok3:OkC w.heap.size true w3:=(okc_set hok1 true).step hba;have hB3:Below w.heap.size w w3:=(((HB0.out.trans (hb1.mono (by rw[HW0.out];omega))).trans hb2).trans (hba.mono (by rw[hsz2];omega)));have KR:=zH (reader_any hps hz3 (by rw[hpbw];omega))
  rw[hpbw] at KR;have HSRC:Hid (Gram.source s=parse P.toks):=zH (by unfold Gram.source;rw[hts,hP]);have HR0:Hid (rest P 0=P.toks):=zH rfl;have HPB:=zH hpbw;have HB3:=zH hB3;have HOK3:=zH hok3;have HZ4:=zH hz3;have hs3:w3.heap.size=w1.heap.size+1:=by rw[hw3];simp
  have HW3:=zH hw3;have h8:=hfit.fit.len;obtain ⟨o1,o2,o3⟩:=hok1;clear hown hroom hbase hfit hb2 hsz2 hba hps hz1 hz3 hok3 hB3 hb1 KT hts hpbw hP HZ HOK HB0 hw3
  go_upto_region 6 with fail
  rw[<-HW3.out];clear HW3;go_wp2_with fail
  refine KR.out.mono ?_;rintro e w4 (⟨t,q,w4',rfl,ho,h,ht,hw4,hg⟩|⟨⟨v,rfl⟩,ht,hg⟩)
  case inr=>
   have hsrc:Gram.source s=none:=by rw[HSRC.out];rw[HR0.out] at hg;exact parse_dead hg
   have HSRC2:=zH hsrc;obtain ⟨o1',o2',o3'⟩:=HOK3.out.turn ht (by rw[HPB.out];omega);have HB4:=zH (below_turn HB3.out ht (by rw[HPB.out];omega) (by omega));clear hg ht hsrc KR o1 o2 o3;go_wp2_with fail
   refine leaves_cons (f:=106) (args:=#[.pointer (some ⟨w.heap.size,0,none⟩)]) (by simp) (by simp[go_sem]) ?_;refine (catch_panicking ⟨w.heap.size,0,none⟩ true v [] _ o2' o3').mono ?_;rintro e u' w'' ⟨rfl,rfl,rfl⟩;refine ⟨.bool false,by simp[results,Tryz.results46,go_sem, *],?_⟩
   have hb9:Below w.heap.size w (w4.setCell ⟨w.heap.size,0,none⟩ (.bool false)):=HB4.out.setCell (by show w.heap.size<=w.heap.size;omega) _;exact ⟨by rw[HSRC2.out];rfl,below_grown hb9 _,fun t0 h=>by (rw[HSRC2.out] at h;cases h)⟩
  have hHe:Gram.source s=if (rest P q).length=0 then some (toE t) else none:=by rw[HSRC.out];rw[HR0.out] at hg;exact parse_rest hg
  have hq:=h.le;rw[zar] at hHe;have HSRC2:=zH hHe;have hb4:=below_turn HB3.out ht (by rw[HPB.out];omega) (by omega)
  have hok4:OkC w.heap.size true w4:=by rw[hw4];exact (HOK3.out.turn ht (by rw[HPB.out];omega)).same (by simp[put5,World.setCell]) (put5_heap _ _ _ _ _ _ _ (by omega))
  have HB4:=zH hb4;have HW4:=zH hw4;obtain ⟨ca,cc,c0⟩:=h.cell;rw[HPB.out] at c0
  have c1:w4.cell? ⟨w1.heap.size,0,none⟩=some (.slice ca (P.toks.length-q) cc):=by rw[hw4];exact (World.cell?_of_block (a:=⟨w1.heap.size,0,none⟩) (put5_heap _ _ _ _ _ _ _ (by show w1.heap.size≠eb;omega))).trans c0
  have HO4:Hid (Own w3.heap.size w4 t):=zH (by rw[hw4];exact Own.put5 ho (fun hm=>by have:=ho.lo _ hm;omega) _ _ _ _ _)
  have HF4:Hid (Five eb (.int .i64 t.kind) (.string t.text) (.int .i64 t.num) t.vn t.vk w4):=zH (by rw[hw4];exact five_put (zero_five (HZ4.out.turn ht (by rw[HPB.out];omega))))
  generalize P.toks.length-q=l at *;obtain ⟨o1',o2',o3'⟩:=hok4;clear hg ht hHe KR o1 o2 o3 ho h hb4 hw4 c0 HSRC HR0
  have hfin:∀ (b:Bool),(Gram.source s=if b=true then some (toE t) else none)->AllBack s eb w (.returned (.bool b)) (w4.setCell ⟨w.heap.size,0,none⟩ (.bool b)):=fun b hb=>by
   refine ⟨?_,?_,fun t0 h=>?_⟩
   ·rw[hb];cases b<;>rfl
   ·rw[HW4.out]
    exact below_grown5 HB4.out _ _ _ _ _ _ (zL _)
   ·rw[hb] at h
    cases b with
    | false=>cases h
    | true=>cases h;refine ⟨t,rfl,(HO4.out.frame fun x hx=>set_heap _ _ _ _ (by have:=HO4.out.lo x hx;omega)).mono (by omega),HF4.out.same (by simp[World.setCell]) (set_heap _ _ _ _ (by omega))⟩
  have HFIN:=zH hfin;clear hfin;by_cases hl:l=0
  ·have b1:((l:Int)==0)=true:=by rw[hl];rfl
   have HE:Hid (Gram.source s=if true=true then some (toE t) else none):=zH (by rw[HSRC2.out,if_pos hl,if_pos rfl])
   clear hl;go_wp2_with fail
   refine leaves_cons (f:=106) (args:=#[.pointer (some ⟨w.heap.size,0,none⟩)]) (by simp) (by simp[go_sem]) ?_;refine (catch_idle ⟨w.heap.size,0,none⟩ _).mono ?_;rintro e u' w'' ⟨rfl,rfl,rfl⟩;exact ⟨.bool true,by simp[results,Tryz.results46,go_sem, *],HFIN.out true HE.out⟩
  ·have b1:((l:Int)==0)=false:=by
    rw[beq_eq_false_iff_ne];omega
   have HE:Hid (Gram.source s=if false=true then some (toE t) else none):=zH (by rw[HSRC2.out,if_neg hl,if_neg (by simp)])
   clear hl;go_wp2_with fail
   refine leaves_cons (f:=106) (args:=#[.pointer (some ⟨w.heap.size,0,none⟩)]) (by simp) (by simp[go_sem]) ?_;refine (catch_idle ⟨w.heap.size,0,none⟩ _).mono ?_;rintro e u' w'' ⟨rfl,rfl,rfl⟩;exact ⟨.bool false,by simp[results,Tryz.results46,go_sem, *],HFIN.out false HE.out⟩
end ParI
namespace ParI
open Go.RowKit
open Strs Tree Gram Placed
open Go.Proofs.YtbigfeblomfflaaGreatDoor.Parser
def OwnBack (a : Option E) (w : World) (e : Ending) (w' : World) : Prop :=
  ∃ t : T, e = .returned (.tuple #[agg t, .bool a.isSome]) /\ toE t = a.getD SpecParse.eZero /\ Own w.heap.size w' t /\ Below w.heap.size w w'
set_option maxRecDepth 10000 in
set_option maxHeartbeats 8000000 in
theorem parse_any (s : ByteArray) (w : World) (hM : Max w) :
    Calls Tryz.prog 13 #[.string s] w (OwnBack (SpecParse.answer s) w) := by
  have hmf : ∀ (fn : Fn) (first cap : Array Value) (w : World), (Instr.makeFunc fn first cap).run Tryz.prog w = .ok (.func fn first cap) w := fun _ _ _ _ => rfl
  have hnot : ∀ (x : Bool) (w : World), (Op.unary .not (.bool x)).run Tryz.prog w = .ok (.bool (!x)) w := fun _ _ => rfl
  have hb0 : Below w.heap.size w (w.alloc (.cells #[.int .i64 0, .string ⟨#[]⟩, .int .i64 0, .slice none 0 0, .slice none 0 0] 27)) := (zB _ _).alloc (zL _) _
  have hw0 : (w.alloc (.cells #[.int .i64 0, .string ⟨#[]⟩, .int .i64 0, .slice none 0 0, .slice none 0 0] 27)).heap.size = w.heap.size + 1 := by simp
  have hb1 : Below (w.alloc (.cells #[.int .i64 0, .string ⟨#[]⟩, .int .i64 0, .slice none 0 0, .slice none 0 0] 27)).heap.size (w.alloc (.cells #[.int .i64 0, .string ⟨#[]⟩, .int .i64 0, .slice none 0 0, .slice none 0 0] 27)) ((w.alloc (.cells #[.int .i64 0, .string ⟨#[]⟩, .int .i64 0, .slice none 0 0, .slice none 0 0] 27)).alloc (.cells #[.int .i64 0, .string ⟨#[]⟩, .int .i64 0, .slice none 0 0, .slice none 0 0] 27)) := (zB _ _).alloc (zL _) _
  have hb2 := hb0.trans (hb1.mono hb0.size)
  have hz := (zero_new w 27).step hb1
  have hze := zero_new (w.alloc (.cells #[.int .i64 0, .string ⟨#[]⟩, .int .i64 0, .slice none 0 0, .slice none 0 0] 27)) 27
  rw [hw0] at hze
  have hs2 : ((w.alloc (.cells #[.int .i64 0, .string ⟨#[]⟩, .int .i64 0, .slice none 0 0, .slice none 0 0] 27)).alloc (.cells #[.int .i64 0, .string ⟨#[]⟩, .int .i64 0, .slice none 0 0, .slice none 0 0] 27)).heap.size = w.heap.size + 2 := by simp
  have KA := zH (parseAll_any s _ (hM.keep hb2) hze)
  have HB2 := zH hb2
  have HZ := zH hz
  have HS2 := zH hs2
  have HA : Hid (SpecParse.answer s = match Gram.source s with | none => none | some e => if isExpr e = true then some e else none) := zH rfl
  have HLI := zH (fun e h => Gram.source_light (s := s) (e := e) h)
  clear hM hb0 hw0 hb1 hb2 hz hze hs2
  generalize SpecParse.answer s = A at *
  go_enter Tryz.func13, Tryz.ntmps13
  go_wp2_with fail
  refine KA.out.mono ?_
  rintro e w3 ⟨rfl, hgr, hval⟩
  have ht : Turn ⟨w.heap.size + 1, none, 0, []⟩ ((w.alloc (.cells #[.int .i64 0, .string ⟨#[]⟩, .int .i64 0, .slice none 0 0, .slice none 0 0] 27)).alloc (.cells #[.int .i64 0, .string ⟨#[]⟩, .int .i64 0, .slice none 0 0, .slice none 0 0] 27)) w3 := hgr
  have hs3 := ht.size
  rw [HS2.out] at hs3
  have HZ3 := zH (HZ.out.turn ht (by simp))
  have HB3 := zH (below_turn HB2.out ht (by simp) HB2.out.size)
  rw [HS2.out] at hval
  clear ht hgr KA HB2 HZ
  cases hsrc : Gram.source s with
  | none =>
    have HA2 : Hid (A = none) := zH (by rw [HA.out, hsrc])
    obtain ⟨hszz, y0, y1, y2, y3, y4, yfz⟩ := HZ3.out
    have e1 : (none : Option E).isSome = false := rfl
    clear hsrc hval HA HLI HS2
    go_wp2_with fail
    have hb9 := zah (zB w.heap.size w3) (B := w.heap.size) (zL _) (.int .i64 0) (.string ⟨#[]⟩) (.int .i64 0) (.slice none 0 0) (.slice none 0 0)
    refine bodyPost_ret (v := .tuple #[.agg #[.int .i64 0, .string ⟨#[]⟩, .int .i64 0, .slice none 0 0, .slice none 0 0], .bool false]) (by simp [results, Tryz.results13, go_sem, *]) rfl ?_
    exact ⟨.mk 0 ⟨#[]⟩ 0 [] (.slice none 0 0) (.slice none 0 0) [], by rw [HA2.out]; rfl, by rw [HA2.out]; rfl, own_leaf (by rfl) (by rfl) (Nat.zero_le _), HB3.out.trans hb9⟩
  | some t0 =>
    obtain ⟨t, hte, ho, hf⟩ := hval t0 hsrc
    have hr := ho.reads
    have hsoft : TreeTo.SoftV (w.heap.size + 2) w3 t0 (agg t) := by
      rw [<- hte]
      exact ⟨_, _, _, _, _, rfl, Good.soft t ho.good ho.lo⟩
    rw [hte] at hr
    have KI := zH (ImplRight.is_expr hr hsoft (Nat.le_trans (HLI.out t0 hsrc) (by decide)))
    have HA2 : Hid (A = if isExpr t0 = true then some t0 else none) := zH (by rw [HA.out, hsrc])
    have e1 : (some t0).isSome = true := rfl
    clear hsrc hval HA HLI HS2
    obtain ⟨ua, uc, ub, ud, hf1, hf2⟩ := good_forms ho.good
    obtain ⟨uk, ut, un, uns, uvn, uvk, uks⟩ := t
    simp only [T.vn, T.vk, T.names, T.kids] at hf1 hf2
    subst hf1 hf2
    unfold agg at KI
    simp only [T.kind, T.text, T.num, T.vn, T.vk] at KI hf
    have HO := zH ho
    have HF := zH hf
    have HTE := zH hte
    obtain ⟨hs5, f0, f1, f2, f3, f4, ffz⟩ := hf
    clear ho hr hsoft hte
    generalize isExpr t0 = b at *
    cases b with
    | false =>
      rw [if_neg (by simp)] at HA2
      go_wp2_with fail
      refine KI.out.mono ?_
      rintro e w4 ⟨rfl, hb4⟩
      have HB4 := zH (HB3.out.trans (hb4.mono HB3.out.size))
      obtain ⟨hszz, y0, y1, y2, y3, y4, yfz⟩ := HZ3.out.step hb4
      clear hb4 KI f0 f1 f2 f3 f4 ffz
      go_wp2_with fail
      have hb9 := zah (zB w.heap.size w4) (B := w.heap.size) (zL _) (.int .i64 0) (.string ⟨#[]⟩) (.int .i64 0) (.slice none 0 0) (.slice none 0 0)
      refine bodyPost_ret (v := .tuple #[.agg #[.int .i64 0, .string ⟨#[]⟩, .int .i64 0, .slice none 0 0, .slice none 0 0], .bool false]) (by simp [results, Tryz.results13, go_sem, *]) rfl ?_
      exact ⟨.mk 0 ⟨#[]⟩ 0 [] (.slice none 0 0) (.slice none 0 0) [], by rw [HA2.out]; rfl, by rw [HA2.out]; rfl, own_leaf (by rfl) (by rfl) (Nat.zero_le _), HB4.out.trans hb9⟩
    | true =>
      rw [if_pos rfl] at HA2
      go_wp2_with fail
      refine KI.out.mono ?_
      rintro e w4 ⟨rfl, hb4⟩
      have HB4 := zH (HB3.out.trans (hb4.mono HB3.out.size))
      obtain ⟨hszz, y0, y1, y2, y3, y4, yfz⟩ := HZ3.out.step hb4
      have HO4 := zH (HO.out.below hb4)
      obtain ⟨gs5, g0, g1, g2, g3, g4, gfz⟩ := HF.out.step hb4
      clear hb4 KI f0 f1 f2 f3 f4 ffz
      go_wp2_with fail
      have hb9 := zah (zB w.heap.size w4) (B := w.heap.size) (zL _) (.int .i64 uk) (.string ut) (.int .i64 un) (.slice ua uns.length uc) (.slice ub uks.length ud)
      refine bodyPost_ret (v := .tuple #[.agg #[.int .i64 uk, .string ut, .int .i64 un, .slice ua uns.length uc, .slice ub uks.length ud], .bool true]) (by simp [results, Tryz.results13, go_sem, *]) rfl ?_
      exact ⟨.mk uk ut un uns (.slice ua uns.length uc) (.slice ub uks.length ud) uks, by rw [HA2.out]; rfl, by rw [HA2.out]; exact HTE.out, (Own.put5 HO4.out (B := w.heap.size) (fun hm => by have := HO4.out.lo _ hm; omega) _ _ _ _ _).mono (by omega), HB4.out.trans hb9⟩
end ParI
end Go.Proofs.YtbigfeblomfflaaGreatDoor
