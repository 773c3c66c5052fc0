/-
  ParAllD ParWord ParBody ParPat ParPatK ParMeth ParCls ImplPuts
-/
import Derived.Test.YtlmhgeanknhcfaaGreatDoorB33
import Derived.Test.YtlmhgeanknhcfaaGreatDoorB18
set_option maxHeartbeats 16000000
set_option maxRecDepth 10000
namespace Go.Proofs.YtlmhgeanknhcfaaGreatDoor
namespace ParI
open Go.RowKit
open Strs Tree Gram
open Go.Proofs.YtlmhgeanknhcfaaGreatDoor.Parser
open Go.Proofs.YtlmhgeanknhcfaaGreatDoor.Data (D Cells Exc zaa)
def z9d {β:Type} (pl:β->List Data.P) (g:Nat->R->Option (β×R)) (P:Cst) (eb:Nat) (w:World) (e:Ending) (w':World):Prop:=
 (∃ x ds q,e=.returned (.tuple #[])/\zaa ds=pl x/\Data.Own w.heap.size w' ds/\Cells eb ds w'/\(q<=P.toks.length/\∃ ca cc,w'.cell? ⟨P.pb,0,none⟩=some (.slice ca (P.toks.length-q) cc))/\Exc [P.pb,eb] w w'/\g P.toks.length (rest P 0)=some (x,rest P q)) \/
 (zsr e/\Exc [P.pb,eb] w w'/\g P.toks.length (rest P 0)=none)
def zgn {β:Type} (g:Nat->R->Option (β×R)) (s:ByteArray):Option β:=
 match Tok.tokens s with
 | none=>none
 | some ts=>match g ts.length ts with|none=>none|some (x,r1)=>if r1.length=0 then some x else none
def zjo {β:Type} (pl:β->List Data.P) (g:Nat->R->Option (β×R)) (s:ByteArray) (eb:Nat) (w:World) (e:Ending) (w':World):Prop:=
 e=.returned (.bool (zgn g s).isSome)/\w.grownBy w' (some eb)/\∀ x,zgn g s=some x->∃ ds,zaa ds=pl x/\Data.Own w.heap.size w' ds/\Cells eb ds w'
theorem OkC.exc {F:List Nat} {B:Nat} {b:Bool} {w w':World} (h:OkC B b w) (hx:Exc F w w') (hB:B∉F):OkC B b w':=h.same hx.size (hx.block B h.size hB)
theorem zly {a b:World} {eb B:Nat} (h:a.grownBy b (some eb)) (hB:a.heap.size<=B) (v:Value):a.grownBy (b.setCell ⟨B,0,none⟩ v) (some eb):=
 ⟨(show b.os=a.os from h.os),(show b.tape=a.tape from h.tape),(show b.output=a.output from h.output),by have:=h.size;simpa [World.setCell] using this,fun k hk hn=>(zc2 b B 0 v (by omega)).trans (World.grownBy.block h k hk hn)⟩
theorem zl2 {a b c:World} {eb pb:Nat} (h:Below a.heap.size a b) (hx:Exc [pb,eb] b c) (hp:a.heap.size<=pb):a.grownBy c (some eb):=
 ⟨hx.os.trans h.os,hx.tape.trans h.tape,hx.output.trans h.output,Nat.le_trans h.size hx.size,fun k hk hn=>(hx.block k (Nat.lt_of_lt_of_le hk h.size) (by simp only[List.mem_cons,List.not_mem_nil,or_false,not_or];refine ⟨by omega,fun e=>hn (by rw[e])⟩)).trans (h.block k hk)⟩
theorem zq4 {B:Nat} {ds es:List D} {w:World} (h:Cells B ds w) (hv:Data.vals ds=Data.vals es):Cells B es w:=by
 refine ⟨h.1,fun j hj=>?_⟩
 have hl:ds.length=es.length:=by rw[<-Data.zfj,hv,Data.zfj]
 have h2:=h.2 j (by omega);have e1:=Data.zjt ds j (by omega);rw[hv,Data.zjt es j hj] at e1;rw[h2,<-Option.some.inj e1]
theorem zjc {B g o:Nat} {ds:List D} {w:World} (h:Cells B ds w) (v:Value) (hB:B≠g):Cells B ds (w.setCell ⟨g,o,none⟩ v):=Data.zb5 h v hB
end ParI
namespace ParI
open Go.RowKit
open Strs Tree Gram Placed
open Go.Proofs.YtlmhgeanknhcfaaGreatDoor.Parser
theorem ydh {s:ByteArray} {r:R} (h:wd s r=true) (hf:∀ t,t∈r->Tok.zix t):∃ r',r=⟨8,s,0⟩::r':=by
 cases r with
 | nil=>cases h
 | cons t r=>simp only[wd,Bool.and_eq_true,decide_eq_true_eq] at h;have h0:=(hf t (by simp)).zero (by rw[h.1];decide);obtain ⟨k,x,n⟩:=t;simp only at h h0;obtain ⟨rfl,rfl⟩:=h;subst h0;exact ⟨r,rfl⟩
theorem zyd {s:ByteArray} {r:R} (h:wd s r=false):(nxt r).kind=8->¬(nxt r).text.toList=s.toList:=by
 cases r with
 | nil=>intro e;exact absurd e (by decide)
 | cons t r=>intro e e2;simp only[nxt] at e e2;rw[ByteArray.toList_eq,ByteArray.toList_eq] at e2;have:t.text=s:=ByteArray.ext (Array.ext' e2);simp[wd,e,this] at h
theorem zn1 {P:Cst} {p:Nat} {w:World} (h:IS P p w) {s:ByteArray} (hk:wd s (rest P p)=true):
  Calls Tryz.prog 101 #[.pointer (some ⟨P.pb,0,none⟩),.string s] w fun e w'=>e=.returned (.bool true)/\IS P (p+1) w'/\za2 P w w':=by
 obtain ⟨r,hr⟩:=ydh hk (zmh h);have KT:=zH (zvs h hr);have KT2:=fun w1 (hb:Below w.heap.size w w1)=>zH (zvs (h.below hb) hr)
 have HT0:=zH (fun w1 (hb:Below w.heap.size w w1)=>(za2.refl P w).low hb)
 clear h hk;generalize hpbq:P.pb=pb at *;go_enter Tryz.func101,Tryz.ntmps101;go_wp2_with fail
 first
  | refine KT.out.mono ?_
    rintro e w1 ⟨rfl,h1,ht1⟩;have H1:=zH h1;have HT2:=zH ht1;clear h1 ht1;go_wp2_with fail
    go_ret;exact ⟨rfl,H1.out,HT2.out⟩
  | have hba:Below w.heap.size w (w.alloc (.cells #[.int .i64 8,.string s,.int .i64 0] 94)):=(zB _ _).alloc (zL _) _
    refine (KT2 _ hba).out.mono ?_;rintro e w1 ⟨rfl,h1,ht1⟩;have H1:=zH h1;have HT2:=zH ((HT0.out _ hba).trans ht1);clear h1 ht1 hba;go_wp2_with fail
    go_ret;exact ⟨rfl,H1.out,HT2.out⟩
theorem zrm {P:Cst} {p:Nat} {w:World} (h:IS P p w) {s:ByteArray} (hk:wd s (rest P p)=false):
  Calls Tryz.prog 101 #[.pointer (some ⟨P.pb,0,none⟩),.string s] w fun e w'=>e=.returned (.bool false)/\Below w.heap.size w w':=by
 have KT:=zH (z4p h (zyd hk));have KT2:=fun w1 (hb:Below w.heap.size w w1)=>zH (z4p (h.below hb) (zyd hk))
 clear h hk;generalize hpbq:P.pb=pb at *;go_enter Tryz.func101,Tryz.ntmps101;go_wp2_with fail
 first
  | refine KT.out.mono ?_
    rintro e w1 ⟨rfl,hb1⟩;have HB1:=zH hb1;clear hb1;go_wp2_with fail
    go_ret;exact ⟨rfl,HB1.out⟩
  | have hba:Below w.heap.size w (w.alloc (.cells #[.int .i64 8,.string s,.int .i64 0] 94)):=(zB _ _).alloc (zL _) _
    refine (KT2 _ hba).out.mono ?_;rintro e w1 ⟨rfl,hb1⟩;have HB1:=zH (hba.trans (hb1.mono hba.size));clear hb1 hba;go_wp2_with fail
    go_ret;exact ⟨rfl,HB1.out⟩
theorem znj {P:Cst} {p:Nat} {w:World} (h:IS P p w) {s:ByteArray} (hk:wd s (rest P p)=true):
  Calls Tryz.prog 102 #[.pointer (some ⟨P.pb,0,none⟩),.string s] w fun e w'=>e=.returned (.tuple #[])/\IS P (p+1) w'/\za2 P w w':=by
 have K:=zH (zn1 h hk);clear h hk;generalize hpbq:P.pb=pb at *;go_enter Tryz.func102,Tryz.ntmps102;go_wp2_with fail
 refine K.out.mono ?_;rintro e w1 ⟨rfl,h1⟩;replace h1:=zH h1;go_wp2_with fail
 go_end0
 exact ⟨rfl,h1.out⟩
theorem zpf {P:Cst} {p:Nat} {w:World} (h:IS P p w) {s:ByteArray} (hk:wd s (rest P p)=false):
  Calls Tryz.prog 102 #[.pointer (some ⟨P.pb,0,none⟩),.string s] w fun e w'=>zsr e/\Below w.heap.size w w':=by
 have K:=zH (zrm h hk);clear h hk;generalize hpbq:P.pb=pb at *;go_enter Tryz.func102,Tryz.ntmps102;go_wp2_with fail
 refine K.out.mono ?_;rintro e w1 ⟨rfl,h1⟩;replace h1:=zH h1;go_wp2_with fail
 exact ⟨rfl,⟨_,rfl⟩,h1.out⟩
end ParI
namespace ParI
open Go.RowKit
open Strs Tree Gram
open Go.Proofs.YtlmhgeanknhcfaaGreatDoor.Parser
open Go.Proofs.YtlmhgeanknhcfaaGreatDoor.Data (D Cells Exc zaa strs zhe zbc zay M val)
def zrz (ex:X) (r:R):Option (List ByteArray×List E×R):=
 match names r with
 | none=>none
 | some (ts,r2)=>
  match zby ex [] r2 with
  | none=>none
  | some (b,r3)=>some (ts,b,r3)
def z9u (P:Cst) (mb mo:Nat) (ds:List D) (w:World) (g:Option (List ByteArray×List E×R)) (e:Ending) (w':World):Prop:=
 (∃ (ts:List ByteArray) (ks:List Placed.T) (vt vk:Value) (q:Nat),e=.returned (.tuple #[])/\Cells mb ((ds.set (mo+3) (.row 0 1 vt [])).set (mo+4) (.row 0 5 vk [])) w'/\(∀ o,w'.frozen? ⟨mb,o,none⟩=false) /\
  Data.Own w.heap.size w' [.row 9 1 vt (strs ts),.row 25 5 vk (zhe ks)]/\IS P q w'/\Exc [P.pb,mb] w w'/\g=some (ts,Placed.zg2 ks,rest P q)) \/
 (zsr e/\Exc [P.pb,mb] w w'/\g=none)
theorem zc4 {F:List Nat} {B:Nat} {w w':World} (h:∀ o,w.frozen? ⟨B,o,none⟩=false) (hl:B<w.heap.size) (hx:Exc F w w') (hB:B∉F):∀ o,w'.frozen? ⟨B,o,none⟩=false:=fun o=>(World.frozen?_of_block (a:=⟨B,o,none⟩) (hx.block B hl hB)).trans (h o)
theorem zbg {B g:Nat} {w:World} (h:∀ o,w.frozen? ⟨B,o,none⟩=false) (o':Nat) (v:Value):∀ o,(w.setCell ⟨g,o',none⟩ v).frozen? ⟨B,o,none⟩=false:=fun o=>by
 have:=h o
 go_simp
theorem IS.set {P:Cst} {p:Nat} {w:World} (h:IS P p w) {B:Nat} (hlo:Lo P B) (o:Nat) (v:Value):IS P p (w.setCell ⟨B,o,none⟩ v):=h.low ((zB B w).setCell (by show B<=B;omega) _) hlo
theorem zlb {n:Nat} {P:Cst} {p:Nat} {w:World} {mb mo:Nat} {ds:List D} (h:IS P p w) (hn:P.toks.length<n) (hc:Cells mb ds w) (hf:∀ o,w.frozen? ⟨mb,o,none⟩=false) (hlo:Lo P mb) (hm:mo+4<ds.length):
  Calls Tryz.prog 104 #[.pointer (some ⟨P.pb,0,none⟩),.pointer (some ⟨mb,mo,none⟩)] w (z9u P mb mo ds w (zrz (expr n) (rest P p))):=by
 have KV:=zH (zlh h);have KS:=fun (w1:World) (q:Nat) (h1:IS P q w1)=>zH (zke (zsg n) h1 (by rw[zaf];omega))
 have HC:=zH hc;have HF:=zH hf;have HLO:=zH hlo;have hpm:=hlo.1;have hms:=hc.1;have hne:mb∉[P.pb]:=by simp;omega
 have HNE:=zH hne;have HG:Hid (zrz (expr n) (rest P p)=match names (rest P p) with|none=>none|some (ts,r2)=>match zby (expr n) [] r2 with|none=>none|some (b,r3)=>some (ts,b,r3)):=zH rfl
 generalize zrz (expr n) (rest P p)=G at *;clear h hc hf hlo hne;generalize hpb:P.pb=pb at *;have HPB:=zH hpb;clear hpb;go_enter Tryz.func104,Tryz.ntmps104;go_wp2_with fail
 refine KV.out.mono ?_;rintro e w1 (⟨v,ts,q,rfl,hown,hlen,hsz,h1,ht,hgo⟩|⟨⟨v,rfl⟩,ht,hgo⟩)
 case inr=>
  have HT:=zH (Data.zb4 ht [P.pb,mb] (by simp));have HG2:Hid (G=none):=zH (by rw[HG.out,hgo]);clear ht hgo KV KS;go_wp2_with fail
  exact ⟨rfl,.inr ⟨⟨_,rfl⟩,HPB.out▸HT.out,HG2.out⟩⟩
 have hx1:=Data.zb4 ht [P.pb] (by simp);have hx1':=Data.zb4 ht [P.pb,mb] (by simp);have hc1:=hx1.cells HC.out (by rw[HPB.out];exact HNE.out);have hf1:=zc4 HF.out hms hx1 (by rw[HPB.out];exact HNE.out);have ms1:=hc1.1;obtain ⟨ra,rc,rfl⟩:=Kit.za5 hown;have hr1:=Data.zn6 hown hsz;obtain ⟨y3,hy3⟩:∃ y,w1.cell? ⟨mb,mo+3,none⟩=some y:=⟨_,hc1.2 (mo+3) (by omega)⟩;have fz3:=hf1 (mo+3)
 have HC1:=zH hc1;have HF1:=zH hf1;have HR1:=zH hr1;have HX1:=zH hx1';have HI1:=zH h1;have HN1:=zH hgo;have hgw:=HX1.out.size;clear hc1 hf1 hr1 hx1 hx1' h1 hgo ht hown hsz KV HC HF;obtain ⟨w2,hw2⟩:∃ w2,w2=w1.setCell ⟨mb,mo+3,none⟩ (.slice ra ts.length rc):=⟨_,rfl⟩;have hs2:w2.heap.size=w1.heap.size:=by rw[hw2];simp[World.setCell]
 have HC2:Hid (Cells mb (ds.set (mo+3) (.row 0 1 (.slice ra ts.length rc) [])) w2):=zH (by rw[hw2];exact Data.Cells.set HC1.out (mo+3) (.row 0 1 (.slice ra ts.length rc) []) (by omega) fz3)
 have HF2:Hid (∀ o,w2.frozen? ⟨mb,o,none⟩=false):=zH (by rw[hw2];exact zbg HF1.out _ _);have HX2:Hid (Exc [P.pb,mb] w w2):=zH (by rw[hw2];exact HX1.out.set _ (by simp))
 have HI2:Hid (IS P q w2):=zH (by rw[hw2];exact HI1.out.set HLO.out _ _)
 have HO2:Hid (Data.Own w.heap.size w2 [.row 9 1 (.slice ra ts.length rc) (strs ts)]):=zH (by rw[hw2];exact (Data.row_iff.2 HR1.out).frame fun b hb=>Below.heap_setCell _ _ _ _ (fun e=>by have h1:=(Data.row_iff.2 HR1.out).lo b hb;have:b=mb:=e;omega))
 have KS2:=zH (KS w2 q HI2.out).out;have HW2:=zH hw2;clear hw2 HC1 HF1 HR1 HX1 HI1 KS
 go_upto_region 1 with fail
 rw[<-HW2.out];clear HW2 hy3 fz3;go_wp2_with fail
 refine KS2.out.mono ?_;rintro e w3 (⟨v,ks,q3,rfl,hrow,hklen,h3,ht3,hg3⟩|⟨⟨v,rfl⟩,ht3,hg3⟩)
 case inr=>
  have HT:=zH (HX2.out.trans (Data.zb4 ht3 [P.pb,mb] (by simp)));have HG2:Hid (G=none):=zH (by rw[HG.out,HN1.out];simp only;rw[hg3]);clear ht3 hg3 KS2;go_wp2_with fail
  exact ⟨rfl,.inr ⟨⟨_,rfl⟩,HPB.out▸HT.out,HG2.out⟩⟩
 have hx3:=Data.zb4 ht3 [P.pb] (by simp);have hx3':=Data.zb4 ht3 [P.pb,mb] (by simp);have ms2:=HC2.out.1;have hc3:=hx3.cells HC2.out (by rw[HPB.out];exact HNE.out);have hf3:=zc4 HF2.out ms2 hx3 (by rw[HPB.out];exact HNE.out);obtain ⟨ka,kc,rfl⟩:=hrow.form;have hrd:=Data.z8l hrow;obtain ⟨y4,hy4⟩:∃ y,w3.cell? ⟨mb,mo+4,none⟩=some y:=⟨_,hc3.2 (mo+4) (by simp;omega)⟩;have fz4:=hf3 (mo+4)
 have HO3:=zH (HO2.out.z9l hx3 (fun x hx=>by have:=HO2.out.lo x hx;simp;rw[HPB.out];omega) (Data.row_iff.2 hrd) (by omega))
 have HC3:=zH hc3;have HF3:=zH hf3;have HX3:=zH (HX2.out.trans hx3');have HI3:=zH h3;have HN3:=zH hg3;clear hc3 hf3 hrd hx3 hx3' h3 hg3 ht3 hrow KS2 HC2 HF2 HX2 HI2 HO2;go_wp2_with fail
 go_end0
 refine .inl ⟨ts,ks,_,_,q3,rfl,Data.Cells.set HC3.out (mo+4) (.row 0 5 (.slice ka ks.length kc) []) (by simp;omega) fz4,zbg HF3.out _ _,?_,HI3.out.set HLO.out _ _,HPB.out▸(HX3.out.set _ (by simp)),by rw[HG.out,HN1.out];simp only;rw[HN3.out]⟩
 exact HO3.out.frame fun b hb=>Below.heap_setCell _ _ _ _ (fun e=>by have h1:=HO3.out.lo b hb;have:b=mb:=e;omega)
end ParI
namespace ParI
open Go.RowKit
open Strs Tree Gram
open Go.Proofs.YtlmhgeanknhcfaaGreatDoor.Parser
open Go.Proofs.YtlmhgeanknhcfaaGreatDoor.Data (D Cells Exc zaa strs zhe zbc zay M val)
def mD (sel:ByteArray) (cls:Bool) (v2 v3 v4:Value):List D:=[.str sel,.bool cls,.row 0 1 v2 [],.row 0 1 v3 [],.row 0 5 v4 []]
theorem Exc.yfo {F:List Nat} {w a b:World} (h:Exc F w a) (hb:Below w.heap.size a b):Exc F w b:=
 ⟨hb.os.trans h.os,hb.tape.trans h.tape,hb.output.trans h.output,Nat.le_trans h.size hb.size,fun x hx hf=>(hb.block x hx).trans (h.block x hx hf)⟩
structure zny (P:Cst) (mb:Nat) (cls:Bool) (w:World) (sel:ByteArray) (ps:List ByteArray) (v:Value) (q:Nat) (wr:World):Prop where
 c:Cells mb (mD sel cls v (.slice none 0 0) (.slice none 0 0)) wr
 f:∀ o,wr.frozen? ⟨mb,o,none⟩=false
 own:wr.ownsRow w.heap.size 9 1 v ps.length (ps.map Value.string)
 is:IS P q wr
 x:Exc [P.pb,mb] w wr
 lo:Lo P mb
 lt:mb<w.heap.size
theorem zny.ne {P:Cst} {mb:Nat} {cls:Bool} {w:World} {sel:ByteArray} {ps:List ByteArray} {v:Value} {q:Nat} {wr:World} (h:zny P mb cls w sel ps v q wr):mb∉[P.pb]:=by have:=h.lo.1;simp;omega
theorem zny.go {P:Cst} {mb:Nat} {cls:Bool} {w:World} {sel:ByteArray} {ps:List ByteArray} {v:Value} {q q':Nat} {wr w':World} (h:zny P mb cls w sel ps v q wr) (ht:za2 P wr w') (h':IS P q' w'):zny P mb cls w sel ps v q' w':=
 have hx:=Data.zb4 ht [P.pb] (by simp)
 ⟨hx.cells h.c h.ne,zc4 h.f h.c.1 hx h.ne,zcg h.own ht (Nat.lt_trans h.lo.1 h.lt),h',h.x.trans (Data.zb4 ht [P.pb,mb] (by simp)),h.lo,h.lt⟩
theorem zny.below {P:Cst} {mb:Nat} {cls:Bool} {w:World} {sel:ByteArray} {ps:List ByteArray} {v:Value} {q:Nat} {wr w':World} (h:zny P mb cls w sel ps v q wr) (hb:Below wr.heap.size wr w'):zny P mb cls w sel ps v q w':=h.go ((za2.refl P wr).below hb) (h.is.below hb)
theorem zny.sel {P:Cst} {mb:Nat} {cls:Bool} {w:World} {sel:ByteArray} {ps:List ByteArray} {v:Value} {q:Nat} {wr:World} (h:zny P mb cls w sel ps v q wr) (s:ByteArray):zny P mb cls w s ps v q (wr.setCell ⟨mb,0,none⟩ (.string s)):=
 ⟨Data.Cells.set h.c 0 (.str s) (by show 0<5;decide) (h.f 0),zbg h.f _ _,zft h.own _ _ h.lt,h.is.set h.lo _ _,h.x.set _ (by simp),h.lo,h.lt⟩
theorem zny.par {P:Cst} {mb:Nat} {cls:Bool} {w:World} {sel:ByteArray} {ps ys:List ByteArray} {v v':Value} {q:Nat} {wr w8:World} (h:zny P mb cls w sel ps v q wr) (hb:Below w.heap.size wr w8) (ho:w8.ownsRow w.heap.size 9 1 v' ys.length (ys.map Value.string)):zny P mb cls w sel ys v' q (w8.setCell ⟨mb,2,none⟩ v'):=
 have hc8:=Data.zbs h.c hb h.lt;have hf8:=Data.zb3 h.f hb h.lt
 ⟨Data.Cells.set hc8 2 (.row 0 1 v' []) (by decide:2<5) (hf8 2),zbg hf8 _ _,zft ho _ _ h.lt,(h.is.low hb (h.lo.le (Nat.le_of_lt h.lt))).set h.lo _ _,(Exc.yfo h.x hb).set _ (by simp),h.lo,h.lt⟩
def zkp (P:Cst) (mb:Nat) (cls:Bool) (w:World) (g:Option (ByteArray×List ByteArray×R)) (e:Ending) (w':World):Prop:=
 (∃ sel ps v q,e=.returned (.tuple #[])/\zny P mb cls w sel ps v q w'/\(∀ x,x∈ps->x.size<=maxLen)/\sel.size<=maxLen/\g=some (sel,ps,rest P q)) \/
 (zsr e/\Exc [P.pb,mb] w w'/\g=none)
theorem z9k {r:R} (h1:hd 1 r=false) (h6:hd 6 r=false) (h2:hd 2 r=false):pattern r=none:=by unfold pattern zoe;rw[h1,h6,if_neg (by simp),if_neg (by simp),zgf h2];rfl
theorem zw1 {r:R} (h1:hd 1 r=true) (hp:0<(txt r).size):pattern r=some (txt r,[],r.tail):=by unfold pattern zoe;rw[if_pos h1];simp only;rw[if_neg (by omega)]
theorem yay {r:R} (h6:hd 6 r=true) (h2:hd 1 r.tail=true) (hp:0<(txt r).size):pattern r=some (txt r,[txt r.tail],r.tail.tail):=by unfold pattern zoe;rw[zon h6 (by decide),if_neg (by simp),if_pos h6,if_pos h2];simp only;rw[if_neg (by omega)]
theorem z0r {r:R} (h6:hd 6 r=true) (h2:hd 1 r.tail=false):pattern r=none:=by unfold pattern zoe;rw[zon h6 (by decide),if_neg (by simp),if_pos h6,h2,if_neg (by simp)]
theorem z9q {r:R} (h2:hd 2 r=true):pattern r=match zdx none_ [] r with|none=>none|some (s,ps,r1)=>if s.size=0 then none else some (s,ps,r1):=by unfold pattern zoe;rw[zon h2 (by decide),if_neg (by simp),zon h2 (by decide),if_neg (by simp)];cases zdx none_ [] r<;>rfl
theorem zru {r:R} {k:Int} (hk:k≠0):((nxt r).kind==k)=hd k r:=by
 cases h:hd k r with
 | false=>exact zh5 hk h
 | true=>rw[zhi h];exact BEq.rfl
theorem zu9 {P:Cst} {p q:Nat} {w:World} {k:Int} (h:IS P p w) (hk:k=1\/k=6) (hh:hd k (rest P q)=true):0<(txt (rest P q)).size:=by obtain ⟨t,r,hr,e⟩:=zff hh;have h1:=h.fit.full t (List.mem_of_getElem? (zb8 hr).2.1) (by rw[e];exact hk);rw[hr];exact h1
theorem z81 {P:Cst} {p mb:Nat} {cls:Bool} {w:World} (h:zny P mb cls w ⟨#[]⟩ [] (.slice none 0 0) p w) (h1:hd 1 (rest P p)=true):
  Calls Tryz.prog 103 #[.pointer (some ⟨P.pb,0,none⟩),.pointer (some ⟨mb,0,none⟩)] w (zkp P mb cls w (pattern (rest P p))):=by
 have hfd:=zkg;have KX:=zH (zcp h.is);have KT:=fun (w1:World) (hb:Below w.heap.size w w1)=>zH (zcr (h.is.below hb) h1)
 have HG:=zH (zw1 h1 (zu9 h.is (.inl rfl) h1));have HS:=zH (Nat.le_trans (zcn (p:=p) h.is.fit.fit) (show 4000<=maxLen by unfold maxLen;omega))
 have e1:(nxt (rest P p)).kind=1:=zhi h1;have H:=zH h;generalize hG:pattern (rest P p)=G at *;clear hG h h1;generalize txt (rest P p)=x at *;rw[zab] at HG;generalize hpb:P.pb=pb at *;have HPB:=zH hpb;clear hpb;generalize nxt (rest P p)=t at *;obtain ⟨tk,tt,tn⟩:=t;simp only at e1;subst e1;go_enter Tryz.func103,Tryz.ntmps103;go_wp2_with fail
 refine KX.out.mono ?_;rintro e w1 ⟨rfl,hb1⟩;have KT1:=KT w1 hb1;have H1:=zH (H.out.below hb1);clear hb1 KT KX H;go_wp2_with fail
 refine KT1.out.mono ?_;rintro e w2 ⟨rfl,h2,ht2⟩;have H2:=zH (H1.out.go ht2 h2);have c0:=H2.out.c.at 0 (.str ⟨#[]⟩) rfl;have f0:=H2.out.f 0;simp only[val] at c0;clear h2 ht2 KT1 H1;go_wp2_with fail
 go_end0
 exact .inl ⟨x,[],_,p+1,rfl,H2.out.sel x,(fun _ h=>nomatch h),HS.out,HG.out⟩
theorem ycn {P:Cst} {p mb:Nat} {cls:Bool} {w:World} (h:zny P mb cls w ⟨#[]⟩ [] (.slice none 0 0) p w) (h6:hd 6 (rest P p)=true):
  Calls Tryz.prog 103 #[.pointer (some ⟨P.pb,0,none⟩),.pointer (some ⟨mb,0,none⟩)] w (zkp P mb cls w (pattern (rest P p))):=by
 have hfd:=zkg;have KX:=zH (zcp h.is);have KT:=fun (w1:World) (hb:Below w.heap.size w w1)=>zH (zcr (h.is.below hb) h6)
 have KT1:=fun (w1:World) (h1:IS P (p+1) w1) (hb:hd 1 (rest P (p+1))=true)=>zH (zcr h1 hb)
 have KT0:=fun (w1:World) (h1:IS P (p+1) w1) (hb:hd 1 (rest P (p+1))=false)=>zH (zfq h1 (by decide) hb)
 have HFP:=zH (zu9 h.is (.inr rfl) h6);have HS:=zH (fun q=>Nat.le_trans (zcn (p:=q) h.is.fit.fit) (show 4000<=maxLen by unfold maxLen;omega))
 have e1:(nxt (rest P p)).kind=6:=zhi h6;have H:=zH h;have H6:=zH h6;have hlt:=h.lt;generalize hG:pattern (rest P p)=G at *;have HG:=zH hG;clear hG h h6;generalize hx:txt (rest P p)=x at *;have HX:=zH hx;clear hx;generalize hpb:P.pb=pb at *;have HPB:=zH hpb;clear hpb;generalize nxt (rest P p)=t at *;obtain ⟨tk,tt,tn⟩:=t;simp only at e1;subst e1;go_enter Tryz.func103,Tryz.ntmps103
 go_wp2_with fail
 refine KX.out.mono ?_;rintro e w1 ⟨rfl,hb1⟩;have KT2:=KT w1 hb1;have H1:=zH (H.out.below hb1);clear hb1 KT KX H;go_wp2_with fail
 refine KT2.out.mono ?_;rintro e w2 ⟨rfl,h2,ht2⟩;have H2:=zH (H1.out.go ht2 h2);have c0:=H2.out.c.at 0 (.str ⟨#[]⟩) rfl;have f0:=H2.out.f 0;simp only[val] at c0;have H3:=zH (H2.out.sel x);clear h2 ht2 KT2 H1;cases hb:hd 1 (rest P (p+1)) with
 | false=>
  have KT3:=zH (KT0 _ H3.out.is hb).out;have HG2:Hid (G=none):=zH (by rw[<-HG.out];exact z0r H6.out (by rw[zab];exact hb))
  clear hb KT0 KT1;go_wp2_with fail
  refine KT3.out.mono ?_;rintro e w4 ⟨⟨v,rfl⟩,hb4⟩;have H4:=zH (H3.out.below hb4);clear hb4;go_wp2_with fail
  exact ⟨rfl,.inr ⟨⟨_,rfl⟩,HPB.out▸H4.out.x,HG2.out⟩⟩
 | true=>
  have KT3:=zH (KT1 _ H3.out.is hb).out;have HG2:Hid (G=some (x,[txt (rest P (p+1))],rest P (p+1+1))):=zH (by rw[<-HG.out,yay H6.out (by rw[zab];exact hb) (by rw[HX.out];exact HFP.out),HX.out,zab,zab])
  have HS1:=zH (HS.out (p+1));have HS0:Hid (x.size<=maxLen):=zH (by rw[<-HX.out];exact HS.out p);clear hb KT0 KT1 HS;generalize txt (rest P (p+1))=y at *;go_wp2_with fail
  refine KT3.out.mono ?_;rintro e w4 ⟨rfl,h4,ht4⟩;have H4:=zH (H3.out.go ht4 h4);have hba:Below w4.heap.size w4 (w4.alloc (.cells #[.string y] 9)):=(zB _ _).alloc (zL _) _;have hsz:w.heap.size<=w4.heap.size:=H4.out.x.size;have H5:=zH (H4.out.below hba);have c2:=H5.out.c.at 2 (.row 0 1 (.slice none 0 0) []) rfl;have f2:=H5.out.f 2;simp only[val] at c2;have hown:=World.ownsRow_lit (base:=w.heap.size) (e:=9) (size:=1) w4 #[.string y] 1 hsz (by unfold maxLen;omega) rfl
  have H6':=zH (H5.out.par (ys:=[y]) (zB _ _) (by simpa using hown));clear h4 ht4 hba hown KT3 H3 H2 c0 f0;go_wp2_with fail
  go_end0
  exact .inl ⟨x,[y],_,p+1+1,rfl,H6'.out,(fun z hz=>by rw[List.mem_singleton.1 hz];exact HS1.out),HS0.out,HG2.out⟩
end ParI
namespace ParI
open Go.RowKit
open Strs Tree Gram
open Go.Proofs.YtlmhgeanknhcfaaGreatDoor.Parser
open Go.Proofs.YtlmhgeanknhcfaaGreatDoor.Data (D Cells Exc zaa strs zhe zbc zay M val)
theorem z7y {P:Cst} {p mb:Nat} {cls:Bool} {w:World} (h:zny P mb cls w ⟨#[]⟩ [] (.slice none 0 0) p w) (h1:hd 1 (rest P p)=false) (h6:hd 6 (rest P p)=false) (h2:hd 2 (rest P p)=false):
  Calls Tryz.prog 103 #[.pointer (some ⟨P.pb,0,none⟩),.pointer (some ⟨mb,0,none⟩)] w (zkp P mb cls w (pattern (rest P p))):=by
 have hfd:=zkg;have KX:=zH (zcp h.is);have e1:=(zru (r:=rest P p) (k:=1) (by decide)).trans h1;have e6:=(zru (r:=rest P p) (k:=6) (by decide)).trans h6;have e2:=(zru (r:=rest P p) (k:=2) (by decide)).trans h2;have HG:=zH (z9k h1 h6 h2);have H:=zH h;generalize pattern (rest P p)=G at *;clear h h1 h6 h2;generalize hpb:P.pb=pb at *;have HPB:=zH hpb;clear hpb
 generalize nxt (rest P p)=t at *;obtain ⟨tk,tt,tn⟩:=t;simp only at e1 e6 e2;go_enter Tryz.func103,Tryz.ntmps103;go_wp2_with fail
 refine KX.out.mono ?_;rintro e w1 ⟨rfl,hb1⟩;have H1:=zH (H.out.below hb1);clear hb1 KX H;go_wp2_with fail
 exact ⟨rfl,.inr ⟨⟨_,rfl⟩,HPB.out▸H1.out.x,HG.out⟩⟩
theorem z7l {P:Cst} {p mb:Nat} {cls:Bool} {w:World} (h:zny P mb cls w ⟨#[]⟩ [] (.slice none 0 0) p w) (h2:hd 2 (rest P p)=true):
  Calls Tryz.prog 103 #[.pointer (some ⟨P.pb,0,none⟩),.pointer (some ⟨mb,0,none⟩)] w (zkp P mb cls w (pattern (rest P p))):=by
 have hfd:=zkg;obtain ⟨i0,hi,hz0,hz1,hz2⟩:=info_parts zs6;have KN:=zH (zcp h.is);have KX:=zH (fun (w1:World) (q:Nat) (h1:IS P q w1)=>zcp h1)
 have KT:=zH (fun (w1:World) (q:Nat) (k:Int) (h1:IS P q w1) (hk:hd k (rest P q)=true)=>zcr h1 hk)
 have KT0:=zH (fun (w1:World) (q:Nat) (h1:IS P q w1) (hk:hd 1 (rest P q)=false)=>zfq h1 (by decide) hk)
 have HG:=zH (z9q h2);have HH:=zH h2;have HLO:=zH h.lo;have hlt:=h.lt;have hpm:=h.lo.1;have HFT:=zH h.is.fit.fit
 have HTWO:Hid (∀ q,hd 2 (rest P q)=true->0<(txt (rest P q)).size):=zH (fun q hq=>by obtain ⟨t,r,hr,hk⟩:=zff hq;have h1:=(h.is.fit.fine t (List.mem_of_getElem? (zb8 hr).2.1)).two hk;rw[hr];exact h1)
 have h8:=h.is.fit.fit.len;have e1:(nxt (rest P p)).kind=2:=zhi h2;have H:=zH h;clear h h2;generalize hG:pattern (rest P p)=G at *;clear hG;generalize hpb:P.pb=pb at *;have HPB:=zH hpb;clear hpb;generalize hN:P.toks.length=N at *;have HN:=zH hN;clear hN;generalize nxt (rest P p)=t at *;obtain ⟨tk,tt,tn⟩:=t;simp only at e1;subst e1;go_enter Tryz.func103,Tryz.ntmps103;go_wp2_with fail
 refine KN.out.mono ?_;rintro e w3 ⟨rfl,hb3⟩;have H3:=zH (H.out.below hb3);clear hb3 KN H;go_wp2_with fail
 go_loopw [] (fun wr=>∃ (sel:ByteArray) (ps:List ByteArray) (v:Value) (q:Nat),p<=q/\ps.length<=q/\sel.size<=4000*q/\(q=p\/0<sel.size)/\(∀ x,x∈ps->x.size<=maxLen)/\zny P mb cls w sel ps v q wr/\zdx none_ [] (rest P p)=zdx sel ps (rest P q)) (fun wr=>lft pb wr)
 case atStart=>exact ⟨⟨#[]⟩,[],_,p,zL _,Nat.zero_le _,Nat.zero_le _,.inl rfl,(fun _ h=>nomatch h),H3.out,rfl⟩
 case round=>
  clear H3;obtain ⟨sel,ps,v,q,hpq,hlen,hsel,hpos,hsz,hs,hgo⟩:=hrel;obtain ⟨ra,rc,rfl⟩:=Kit.za5 hs.own;have HS:=zH hs;have HSZ:=zH hsz;have HGO:=zH hgo;have hqN:=hs.is.le;rw[HN.out] at hqN;have hpl2:=hs.is.lft;rw[HPB.out,HN.out] at hpl2;have hpl3:=zH hpl2;have KN1:=zH (KX.out wr q hs.is);clear hs hsz hgo hpl2;cases hb1:hd 2 (rest P q) with
  | false=>
   have e1:=zh5 (k:=2) (by decide) hb1
   have hqp:q≠p:=fun e=>by subst e;rw[HH.out] at hb1;cases hb1
   have hszz:sel.size≠0:=by omega
   have HG2:Hid (G=some (sel,ps,rest P q)):=zH (by rw[HG.out,HGO.out,zgf hb1];simp only;rw[if_neg hszz]);clear hb1 hszz;generalize nxt (rest P q)=t at *;go_wp2_with fail
   refine KN1.out.mono ?_;rintro e w4 ⟨rfl,hb4⟩;have H4:=zH (HS.out.below hb4);clear hb4 KN1;go_wp2_with fail
   go_end0
   exact .inl ⟨sel,ps,_,q,rfl,H4.out,HSZ.out,by unfold maxLen;omega,HG2.out⟩
  | true=>
   have HB1:=zH hb1;have e1:((nxt (rest P q)).kind==2)=true:=by rw[zhi hb1];rfl
   have hq1:=zq2 hb1;rw[HN.out] at hq1;have htx:=zcn (p:=q) HFT.out;have htp:=HTWO.out q hb1;clear hb1;generalize nxt (rest P q)=t at *;go_wp2_with fail
   refine KN1.out.mono ?_;rintro e w4 ⟨rfl,hb4⟩;have H4:=zH (HS.out.below hb4);have c0:=H4.out.c.at 0 (.str sel) rfl;have f0:=H4.out.f 0;have hs4:=H4.out.c.1;simp only[val] at c0;have KT4:=fun k=>zH (KT.out (w4.drewN k) q 2 (H4.out.is.below (zas w4 k)) HB1.out)
   clear hb4 KN1;generalize hxx:txt (rest P q)=x at *;have HXX:=zH hxx;clear hxx;go_wp2_with fail
   go_region_with (go_at_call 74;refine (KT4 _).out.mono ?_;rintro e w5 ⟨rfl,h5,ht5⟩;have H5:=zH (H4.out.go (((za2.refl P w4).below (zas w4 _)).trans ht5) h5);have g0:=H5.out.c.at 0 (.str sel) rfl;have gf:=H5.out.f 0;simp only[val] at g0;clear h5 ht5)
   all_goals
    have H6:=zH (H5.out.sel (sel++x));clear g0 gf KT4 H5;generalize w5.setCell ⟨mb,0,none⟩ (.string (sel++x))=w6 at *;have hs6:=H6.out.c.1;have f2:=H6.out.c.at 2 (.row 0 1 (.slice ra ps.length rc) []) rfl;have fz2:=H6.out.f 2;simp only[val] at f2;have g2:∀ k,(w6.drewN k).cell? ⟨mb,2,none⟩=some (.slice ra ps.length rc):=fun k=>cell_keep (zas w6 k) f2
    have gz2:∀ k,(w6.drewN k).frozen? ⟨mb,2,none⟩=false:=fun k=>((zas w6 k).frozen (p:=⟨mb,2,none⟩) hs6).trans fz2
    go_wp2_with fail
    cases hbn:hd 1 (rest P (q+1)) with
    | false=>
     have KB7:=fun k=>zH (KT0.out (w6.drewN k) (q+1) (H6.out.is.below (zas w6 k)) hbn)
     have HG2:Hid (G=none):=zH (by rw[HG.out,HGO.out,zkt HB1.out (by rw[zab];exact hbn)])
     clear hbn;refine wp_region_any (by kernel_rfl) ?_
     try (change wpAny _ _ _ _ _ _ _ (World.drew _))
     refine wpAny_take (i:=0) (v:=?_) rfl (by kernel_rfl) (by kernel_rfl) (by kernel_rfl) (fun _ _ _ h=>h) (Or.inl ⟨by rfl,?_⟩) ?_
     rotate_left
     ·intro w
      go_simp
      try with_reducible rfl
     refine wpAny_take (i:=1) (v:=?_) rfl (by kernel_rfl) (by kernel_rfl) (by kernel_rfl) (fun _ _ _ h=>h) (Or.inl ⟨by rfl,?_⟩) ?_
     rotate_left
     ·intro w
      go_simp
      try with_reducible rfl
     refine wpAny_take (i:=2) (v:=?_) rfl (by kernel_rfl) (by kernel_rfl) (by kernel_rfl) (fun _ _ _ h=>h) (Or.inl ⟨by rfl,?_⟩) ?_
     rotate_left
     ·intro w
      go_simp
      try with_reducible rfl
     refine wpAny_take (i:=3) (v:=?_) rfl (by kernel_rfl) (by kernel_rfl) (by kernel_rfl) (fun _ _ _ h=>h) (Or.inl ⟨by rfl,?_⟩) ?_
     rotate_left
     ·intro w
      go_simp
      try with_reducible rfl
     refine wpAny_take (i:=5) (v:=?_) rfl (by kernel_rfl) (by kernel_rfl) (by kernel_rfl) (fun _ _ _ h=>h) (Or.inl ⟨by rfl,?_⟩) ?_
     rotate_left
     ·intro w
      go_simp
      try with_reducible rfl
     refine wpAny_ready (rs:=[4,6]) (by kernel_rfl) (by simp) ?_;refine AllReady.cons rfl (fun K hK=>?_) ?_
     ·go_simp
      refine hK _ _ ?_;clear hK K;refine wpAny_ready (rs:=[6]) (by kernel_rfl) (by simp) ?_;refine AllReady.cons rfl (fun K hK=>?_) AllReady.nil
      go_simp
      refine (KB7 _).out.mono ?_;rintro e w7 ⟨⟨v,rfl⟩,hb7⟩;have HX7:=zH (H6.out.x.below ((zas w6 _).trans (hb7.mono (zas w6 _).size)));clear hb7;exact ⟨rfl,.inr ⟨⟨_,rfl⟩,HPB.out▸HX7.out,HG2.out⟩⟩
     ·refine AllReady.cons rfl (fun K hK=>?_) AllReady.nil
      go_simp
      refine (KB7 _).out.mono ?_;rintro e w7 ⟨⟨v,rfl⟩,hb7⟩;have HX7:=zH (H6.out.x.below ((zas w6 _).trans (hb7.mono (zas w6 _).size)));clear hb7;exact ⟨rfl,.inr ⟨⟨_,rfl⟩,HPB.out▸HX7.out,HG2.out⟩⟩
    | true=>
     have HB2:=zH hbn;have hq2:=zq2 hbn;rw[HN.out] at hq2;have htx2:=zcn (p:=q+1) HFT.out;have KB7:=fun k=>zH (KT.out (w6.drewN k) (q+1) 1 (H6.out.is.below (zas w6 k)) hbn)
     have HL:=zH (HGO.out.trans (zne HB1.out (by rw[zab];exact hbn)));rw[zab,zab,HXX.out] at HL;clear hbn;generalize hyy:txt (rest P (q+1))=y at *;clear hyy
     go_region_law
      (first
      | (
       rw[if_pos (by rfl)];unfold Oper.wp
       go_simp
       refine (KB7 _).out.mono ?_;rintro e w7 ⟨rfl,h7,ht7⟩;have H7:=zH (H6.out.go (((za2.refl P w6).below (zas w6 _)).trans ht7) h7);have k4:=H7.out.c.at 2 (.row 0 1 (.slice ra ps.length rc) []) rfl;have k5:=H7.out.f 2;simp only[val] at k4;have hsf:=H7.out.c.1;have a4:∀ o,(w7.alloc o).cell? ⟨mb,2,none⟩=some (.slice ra ps.length rc):=fun o=>cell_keep ((zB _ _).alloc (zL _) o) k4
       have a5:∀ o,(w7.alloc o).frozen? ⟨mb,2,none⟩=false:=fun o=>(((zB w7.heap.size w7).alloc (zL _) o).frozen (p:=⟨mb,2,none⟩) hsf).trans k5
       have a6:∀ o,(w7.alloc o).drew.cell? ⟨mb,2,none⟩=some (.slice ra ps.length rc):=fun o=>a4 o
       have a7:∀ o,(w7.alloc o).drew.frozen? ⟨mb,2,none⟩=false:=fun o=>a5 o
       have hsp:w.heap.size<=w7.heap.size:=H7.out.x.size;clear h7 ht7)
      | (
       refine step_append_lies _ (by rfl) _ _ _ (by rfl) w.heap.size 9 i0 (.string ByteArray.empty) 1 16 Tryz.underlying22 hi hz0 hz1 hz2 rfl (by decide) _ ps.length (ps.map Value.string) (by rfl) (own_keep H7.out.own (by first|exact (zB _ _).alloc (zL _) _|exact ((zB _ _).alloc (zL _) _).drew|exact ((zB _ _).drew).alloc (zL _) _))
        ⟨w7.heap.size,0,none⟩ 1 1 [.string y] (by rfl) (by rfl) (World.news_of_block (cs:=#[.string y]) (t:=9) (fr:=(0,0)) (heap_alloc_new w7 _)) (by intro u hu;simp at hu;subst hu;rfl)
        (by omega) (by unfold maxLen;omega) (by omega) (by simp;omega) (w7.heap.size+1) (by simp) ?_
       intro g cap w8 hown hgrow hat hlt;have hbw:Below w.heap.size w7 w8:=zdy (base:=w.heap.size) hsp H7.out.own hgrow;have hc8:=Data.zbs H7.out.c hbw H7.out.lt;have hf8:=Data.zb3 H7.out.f hbw H7.out.lt;have m4:=hc8.at 2 (.row 0 1 (.slice ra ps.length rc) []) rfl;simp only[val] at m4;have m5:=hf8 2))
     all_goals
      have H8:=zH (H7.out.par (ys:=ps++[y]) hbw (by simpa using hown));clear hown hgrow hat hbw hc8 hf8 m4 m5 KB7 k4 k5 a4 a5 a6 a7 g2 gz2;go_wp2_with fail
      go_roundw
      case rel=>
       have hln:(ps++[y]).length=ps.length+1:=by simp
       refine ⟨sel++x,ps++[y],_,q+1+1,by omega,by rw[hln];omega,by rw[ByteArray.size_append];omega,.inr (by rw[ByteArray.size_append];omega),fun z hz=>?_,by simpa using H8.out,HL.out⟩
       rcases List.mem_append.1 hz with hz|hz
       ·exact HSZ.out z hz
       ·rw[List.mem_singleton.1 hz];exact Nat.le_trans htx2 (by unfold maxLen;omega)
      case measure=>have h1:=H8.out.is.lft;rw[HPB.out,HN.out] at h1;rw[h1,hpl3.out];omega
theorem zkx {P:Cst} {p mb:Nat} {cls:Bool} {w:World} (h:zny P mb cls w ⟨#[]⟩ [] (.slice none 0 0) p w):
  Calls Tryz.prog 103 #[.pointer (some ⟨P.pb,0,none⟩),.pointer (some ⟨mb,0,none⟩)] w (zkp P mb cls w (pattern (rest P p))):=by
 cases h1:hd 1 (rest P p) with
 | true=>exact z81 h h1
 | false=>
  cases h6:hd 6 (rest P p) with
  | true=>exact ycn h h6
  | false=>
   cases h2:hd 2 (rest P p) with
   | true=>exact z7l h h2
   | false=>exact z7y h h1 h6 h2
end ParI
namespace ParI
open Go.RowKit
open Strs Tree Gram
open Go.Proofs.YtlmhgeanknhcfaaGreatDoor.Parser
open Go.Proofs.YtlmhgeanknhcfaaGreatDoor.Data (D Cells Exc zaa strs zhe zbc zay M val zae)
theorem zmp {ex:X} {cls:Bool} {r:R}:zrv ex cls r=match pattern r with
  | none=>none
  | some (s,ps,r1)=>match zrz ex r1 with
   | none=>none
   | some (ts,b,r3)=>some (⟨s,cls,ps,ts,b⟩,r3):=by
 unfold zrv zrz;cases pattern r with
 | none=>rfl
 | some y=>
  obtain ⟨s,ps,r1⟩:=y;simp only;cases names r1 with
  | none=>rfl
  | some z=>
   obtain ⟨ts,r2⟩:=z;simp only;cases zby ex [] r2 with
   | none=>rfl
   | some u=>rfl
theorem zkd {pb mb lo:Nat} (h:lo<=mb):∀ x,x∈[pb,mb]->x≠pb->lo<=x:=by intro x hx hne;simp at hx;omega
def yfe (P:Cst) (w:World) (g:Option (M×R)) (e:Ending) (w':World):Prop:=
 (∃ ds m q,e=.returned (Data.agg ds)/\zaa ds=zbc m/\Data.Own w.heap.size w' ds/\IS P q w'/\za2 P w w'/\g=some (m,rest P q))\/(zsr e/\za2 P w w'/\g=none)
theorem zob {base:Nat} {w:World} {sel:ByteArray} {cls:Bool} {v2 v3 v4:Value} {ps ts:List ByteArray} {ks:List Placed.T} (hs:sel.size<=maxLen) (h:Data.Own base w [.row 9 1 v2 (strs ps),.row 9 1 v3 (strs ts),.row 25 5 v4 (zhe ks)]):
  Data.Own base w [.str sel,.bool cls,.row 9 1 v2 (strs ps),.row 9 1 v3 (strs ts),.row 25 5 v4 (zhe ks)]:=
 (((Data.zv0 (base:=base) (w:=w) hs).append (Data.z7j (x:=cls)) (fun x hx=>by simp[Data.zah,Data.foot] at hx)).append h (fun x hx=>by simp[Data.zah,Data.foot] at hx):Data.Own base w (([.str sel]++[.bool cls])++_))
theorem zk4 (sel:ByteArray) (cls:Bool) (v2 v3 v4:Value) (ps ts:List ByteArray) (ks:List Placed.T):zaa [.str sel,.bool cls,.row 9 1 v2 (strs ps),.row 9 1 v3 (strs ts),.row 25 5 v4 (zhe ks)]=zbc ⟨sel,cls,ps,ts,Placed.zg2 ks⟩:=by simp only[zaa,Data.erase,zbc,Data.zb0,Data.zxh,Data.zzk]
theorem zj0 {n:Nat} {P:Cst} {p:Nat} {w:World} (h:IS P p w) (hn:P.toks.length<n):
  Calls Tryz.prog 53 #[.pointer (some ⟨P.pb,0,none⟩)] w (yfe P w (Gram.method (expr n) (rest P p))):=by
 have hb0:Below w.heap.size w (w.alloc (.cells #[.string ⟨#[]⟩,.bool false,.slice none 0 0,.slice none 0 0,.slice none 0 0] 41)):=(zB _ _).alloc (zL _) _;have HW0:Hid ((w.alloc (.cells #[.string ⟨#[]⟩,.bool false,.slice none 0 0,.slice none 0 0,.slice none 0 0] 41)).heap.size=w.heap.size+1):=zH (by simp);have HZ:=zH (zae w (mD ⟨#[]⟩ false (.slice none 0 0) (.slice none 0 0) (.slice none 0 0)) 41)
 have HZF:=zH (show ∀ o,(w.alloc (.cells #[.string ⟨#[]⟩,.bool false,.slice none 0 0,.slice none 0 0,.slice none 0 0] 41)).frozen? ⟨w.heap.size,o,none⟩=false from fun o=>by go_simp)
 have HI0:=zH (h.below hb0);have HT0:=zH ((za2.refl P w).below hb0);have HLO:=zH h.lo;have hpbl:=h.size;have h8:=h.fit.fit.len;have KY:=fun hb=>zH (zn1 HI0.out (s:=zb7) hb)
 have KN:=fun hb=>zH (zrm HI0.out (s:=zb7) hb)
 have KW1:=fun (w1:World) (h1:IS P p w1) hb=>zH (znj h1 (s:=zfs) hb)
 have KW0:=fun (w1:World) (h1:IS P p w1) hb=>zH (zpf h1 (s:=zfs) hb)
 have KP:=fun (mb:Nat) (cls:Bool) (w1:World) (q:Nat) (h1:zny P mb cls w1 ⟨#[]⟩ [] (.slice none 0 0) q w1)=>zH (zkx h1)
 have KB:=fun (mb:Nat) (ds:List D) (w1:World) (q:Nat) (h1:IS P q w1) (hc:Cells mb ds w1) (hf:∀ o,w1.frozen? ⟨mb,o,none⟩=false) (hl:Lo P mb) (hm:0+4<ds.length)=>zH (zlb (n:=n) h1 hn hc hf hl hm)
 generalize hG:Gram.method (expr n) (rest P p)=G;have HG:=zH hG;clear hG h hb0;generalize hpb:P.pb=pb at *;have HPB:=zH hpb;clear hpb;go_enter Tryz.func53,Tryz.ntmps53;go_wp2_with fail
 cases hcm:wd zb7 (rest P p) with
 | true=>
  refine (KY hcm).out.mono ?_;rintro e w1 ⟨rfl,h1,ht1⟩;have hba:Below w1.heap.size w1 (w1.alloc (.cells #[.string ⟨#[]⟩,.bool true,.slice none 0 0,.slice none 0 0,.slice none 0 0] 41)):=(zB _ _).alloc (zL _) _;have hs1:=ht1.size;rw[HW0.out] at hs1;have hz1:=Data.zb4 ht1 [P.pb] (by simp);have hnz:w.heap.size∉[P.pb]:=by simp;rw[HPB.out];omega
  have hzz:=hz1.cells HZ.out hnz;have hzf:=zc4 HZF.out HZ.out.1 hz1 hnz;have HZ2:=zH (hzz.step hba);have HZF2:=zH (fun o=>(hba.frozen (p:=⟨w.heap.size,o,none⟩) hzz.1).trans (hzf o))
  have HT2:=zH ((HT0.out.trans ht1).below hba);have hlo1:Lo P w1.heap.size:=HLO.out.le (by omega)
  have HPAT:Hid (zny P w1.heap.size true (w1.alloc (.cells #[.string ⟨#[]⟩,.bool true,.slice none 0 0,.slice none 0 0,.slice none 0 0] 41)) ⟨#[]⟩ [] (.slice none 0 0) (p+1) (w1.alloc (.cells #[.string ⟨#[]⟩,.bool true,.slice none 0 0,.slice none 0 0,.slice none 0 0] 41))):=
   zH ⟨zae w1 (mD ⟨#[]⟩ true (.slice none 0 0) (.slice none 0 0) (.slice none 0 0)) _,fun o=>by go_simp,World.ownsRow_nil _ _ _ _,h1.below hba,Exc.refl _ _,hlo1,by simp⟩
  have HMB:Hid (w.heap.size<w1.heap.size):=zH (by omega);have HG2:Hid (G=zrv (expr n) true (rest P (p+1))):=zH (by rw[<-HG.out];unfold Gram.method;rw[hcm,if_pos rfl,zab]);clear h1 ht1 hba hs1 hz1 hnz hzz hzf hlo1 hcm KY KN KW1 KW0 HZ HZF HI0 HT0 HG
  go_upto_region 4 with fail
  generalize (w1.alloc (.cells #[.string ⟨#[]⟩,.bool true,.slice none 0 0,.slice none 0 0,.slice none 0 0] 41))=w2 at *;generalize w1.heap.size=mb at *;have KP2:=zH (KP mb _ w2 (p+1) HPAT.out).out;clear KP;go_wp2_with fail
  refine KP2.out.mono ?_;rintro e w3 (⟨sel,ps,v,q3,rfl,hp3,hsz3,hsl3,hg3⟩|⟨⟨v,rfl⟩,hx3,hg3⟩)
  case inr=>
   have HT3:=zH (Data.zeq HT2.out hx3 (zkd (Nat.le_of_lt HMB.out)));have HG3:Hid (G=none):=zH (by rw[HG2.out,zmp,hg3]);clear hx3 hg3 KP2;go_wp2_with fail
   exact ⟨rfl,.inr ⟨⟨_,rfl⟩,HT3.out,HG3.out⟩⟩
  obtain ⟨va,vc,rfl⟩:=Kit.za5 hp3.own;have KB2:=zH (KB mb _ w3 q3 hp3.is hp3.c hp3.f hp3.lo (by show 0+4<5;decide)).out
  have hnb:w.heap.size∉[P.pb,mb]:=by have:=HMB.out;simp;rw[HPB.out];omega
  have hx3:=hp3.x;have HZ3:=zH (hx3.cells HZ2.out hnb);have HZF3:=zH (zc4 HZF2.out HZ2.out.1 hx3 hnb);have HT3:=zH (Data.zeq HT2.out hx3 (zkd (Nat.le_of_lt HMB.out)));have HP3:=zH hp3;have HO3:=zH (Data.row_iff.2 (Data.zn6 hp3.own hsz3));have HS3:=zH hsl3;have HG3:=zH hg3;have HNB:=zH hnb;clear hp3 hsz3 hsl3 hg3 hx3 hnb KP2 KB HZ2 HZF2;go_wp2_with fail
  refine KB2.out.mono ?_;rintro e w4 (⟨ts,ks,vt,vk,q4,rfl,hc4,hf4,ho4,h4,hx4,hg4⟩|⟨⟨v,rfl⟩,hx4,hg4⟩)
  case inr=>
   have HT4:=zH (Data.zeq HT3.out hx4 (zkd (Nat.le_of_lt HMB.out)));have HG4:Hid (G=none):=zH (by rw[HG2.out,zmp,HG3.out];simp only;rw[hg4]);clear hx4 hg4 KB2;go_wp2_with fail
   exact ⟨rfl,.inr ⟨⟨_,rfl⟩,HT4.out,HG4.out⟩⟩
  obtain ⟨ta,tn,tc,rfl⟩:=Data.zbd (Data.zam.1 ho4.good (.row 9 1 vt (strs ts)) (by simp));obtain ⟨ka,kn,kc,rfl⟩:=Data.zbd (Data.zam.1 ho4.good (.row 25 5 vk (zhe ks)) (by simp));have HT4:=zH (Data.zeq HT3.out hx4 (zkd (Nat.le_of_lt HMB.out)));have HG4:Hid (G=some (⟨sel,true,ps,ts,Placed.zg2 ks⟩,rest P q4)):=zH (by rw[HG2.out,zmp,HG3.out];simp only;rw[hg4])
  have m0:=hc4.at 0 (.str sel) rfl;have m1:=hc4.at 1 (.bool true) rfl;have m2:=hc4.at 2 (.row 0 1 (.slice va ps.length vc) []) rfl;have m3:=hc4.at 3 (.row 0 1 (.slice ta tn tc) []) rfl;have m4:=hc4.at 4 (.row 0 5 (.slice ka kn kc) []) rfl;simp only[val] at m0 m1 m2 m3 m4;have hz4:=hx4.cells HZ3.out HNB.out;have fz:=zc4 HZF3.out HZ3.out.1 hx4 HNB.out;have z0:=hz4.at 0 (.str ⟨#[]⟩) rfl;have z1:=hz4.at 1 (.bool false) rfl
  have z2:=hz4.at 2 (.row 0 1 (.slice none 0 0) []) rfl;have z3:=hz4.at 3 (.row 0 1 (.slice none 0 0) []) rfl;have z4:=hz4.at 4 (.row 0 5 (.slice none 0 0) []) rfl;simp only[val] at z0 z1 z2 z3 z4;have hlt2:w2.heap.size<=w3.heap.size:=HP3.out.x.size;have hml:=HP3.out.lt
  have HO4:=zH (zob (cls:=true) HS3.out ((HO3.out.z9l hx4 (fun x hx hxF=>by have h1:=HO3.out.lo x hx;have h2:=HP3.out.lo.1;simp at hxF;omega) ho4 hlt2).mono (base':=w.heap.size+1) (by have:=HMB.out;omega)))
  have HI4:=zH h4;clear hc4 hf4 ho4 h4 hx4 hg4 hz4 KB2 HO3 HP3 HS3 HG3 HG2 HZ3 HZF3 HNB HT3 HT2 HPAT;go_wp2_with fail
  have hbf:=Data.zbl (zL w.heap.size) [.string sel,.bool true,.slice va ps.length vc,.slice ta tn tc,.slice ka kn kc] w4 w4 0 (zB _ _);refine bodyPost_ret (v:=.agg #[.string sel,.bool true,.slice va ps.length vc,.slice ta tn tc,.slice ka kn kc]) (by simp[results,Tryz.results53,go_sem, *]) rfl ?_;exact .inl ⟨_,_,q4,rfl,zk4 sel true (.slice va ps.length vc) (.slice ta tn tc) (.slice ka kn kc) ps ts ks,(Data.Own.zno (Nat.lt_succ_self _) [.string sel,.bool true,.slice va ps.length vc,.slice ta tn tc,.slice ka kn kc] w4 0 HO4.out).mono (Nat.le_succ _),HI4.out.low hbf HLO.out,HT4.out.low hbf,HG4.out⟩
 | false=>
  refine (KN hcm).out.mono ?_;rintro e w1 ⟨rfl,hb1⟩;have h1:=HI0.out.below hb1;have ht1:za2 P (w.alloc (.cells #[.string ⟨#[]⟩,.bool false,.slice none 0 0,.slice none 0 0,.slice none 0 0] 41)) w1:=(za2.refl P _).below hb1;have hba:Below w1.heap.size w1 (w1.alloc (.cells #[.string ⟨#[]⟩,.bool false,.slice none 0 0,.slice none 0 0,.slice none 0 0] 41)):=(zB _ _).alloc (zL _) _;have hs1:=ht1.size
  rw[HW0.out] at hs1;have hz1:=Data.zb4 ht1 [P.pb] (by simp);have hnz:w.heap.size∉[P.pb]:=by simp;rw[HPB.out];omega
  have hzz:=hz1.cells HZ.out hnz;have hzf:=zc4 HZF.out HZ.out.1 hz1 hnz;have HZ2:=zH (hzz.step hba);have HZF2:=zH (fun o=>(hba.frozen (p:=⟨w.heap.size,o,none⟩) hzz.1).trans (hzf o))
  have HT2:=zH ((HT0.out.trans ht1).below hba);have hlo1:Lo P w1.heap.size:=HLO.out.le (by omega)
  have HPAT:Hid (zny P w1.heap.size false (w1.alloc (.cells #[.string ⟨#[]⟩,.bool false,.slice none 0 0,.slice none 0 0,.slice none 0 0] 41)) ⟨#[]⟩ [] (.slice none 0 0) p (w1.alloc (.cells #[.string ⟨#[]⟩,.bool false,.slice none 0 0,.slice none 0 0,.slice none 0 0] 41))):=
   zH ⟨zae w1 (mD ⟨#[]⟩ false (.slice none 0 0) (.slice none 0 0) (.slice none 0 0)) _,fun o=>by go_simp,World.ownsRow_nil _ _ _ _,h1.below hba,Exc.refl _ _,hlo1,by simp⟩
  have HMB:Hid (w.heap.size<w1.heap.size):=zH (by omega);have HGM:Hid (G=if wd zfs (rest P p) then zrv (expr n) false (rest P (p+1)) else none):=zH (by rw[<-HG.out];unfold Gram.method;rw[hcm,if_neg (by simp),zab])
  clear h1 ht1 hb1 hba hs1 hz1 hnz hzz hzf hlo1 hcm KY KN HZ HZF HI0 HT0 HG
  go_upto_region 3 with fail
  generalize (w1.alloc (.cells #[.string ⟨#[]⟩,.bool false,.slice none 0 0,.slice none 0 0,.slice none 0 0] 41))=w1b at *;generalize w1.heap.size=mb at *;cases hwm:wd zfs (rest P p) with
  | false=>
   have K:=KW0 _ HPAT.out.is hwm;have HG2:Hid (G=none):=zH (by rw[HGM.out,hwm];rfl);clear hwm KW1 KW0;go_wp2_with fail
   refine K.out.mono ?_;rintro e w3 ⟨⟨v,rfl⟩,hb3⟩;have HT3:=zH (HT2.out.below hb3);clear hb3;go_wp2_with fail
   exact ⟨rfl,.inr ⟨⟨_,rfl⟩,HT3.out,HG2.out⟩⟩
  | true=>
   have K:=KW1 _ HPAT.out.is hwm;have HG2:Hid (G=zrv (expr n) false (rest P (p+1))):=zH (by rw[HGM.out,hwm,if_pos rfl]);clear hwm KW1 KW0 HGM;go_wp2_with fail
   refine K.out.mono ?_;rintro e w2 ⟨rfl,h2,ht2⟩;have hz1:=Data.zb4 ht2 [P.pb] (by simp);have hnz:w.heap.size∉[P.pb]:=by simp;rw[HPB.out];omega
   have hzz:=hz1.cells HZ2.out hnz;have hzf:=zc4 HZF2.out HZ2.out.1 hz1 hnz;have hpat:=HPAT.out.go ht2 h2;have hlt2:mb<w2.heap.size:=Nat.lt_of_lt_of_le HPAT.out.lt ht2.size;have ht3:=HT2.out.trans ht2;clear HZ2 HZF2 HT2 HPAT;have HPAT:Hid (zny P mb false w2 ⟨#[]⟩ [] (.slice none 0 0) (p+1) w2):=zH ⟨hpat.c,hpat.f,World.ownsRow_nil _ _ _ _,hpat.is,Exc.refl _ _,hpat.lo,hlt2⟩;have HZ2:=zH hzz
   have HZF2:=zH hzf;have HT2:=zH ht3;clear h2 ht2 hz1 hnz hzz hzf hpat hlt2 ht3 K
   go_upto_region 4 with fail
   have KP2:=zH (KP mb _ w2 (p+1) HPAT.out).out;clear KP;go_wp2_with fail
   refine KP2.out.mono ?_;rintro e w3 (⟨sel,ps,v,q3,rfl,hp3,hsz3,hsl3,hg3⟩|⟨⟨v,rfl⟩,hx3,hg3⟩)
   case inr=>
    have HT3:=zH (Data.zeq HT2.out hx3 (zkd (Nat.le_of_lt HMB.out)));have HG3:Hid (G=none):=zH (by rw[HG2.out,zmp,hg3]);clear hx3 hg3 KP2;go_wp2_with fail
    exact ⟨rfl,.inr ⟨⟨_,rfl⟩,HT3.out,HG3.out⟩⟩
   obtain ⟨va,vc,rfl⟩:=Kit.za5 hp3.own;have KB2:=zH (KB mb _ w3 q3 hp3.is hp3.c hp3.f hp3.lo (by show 0+4<5;decide)).out
   have hnb:w.heap.size∉[P.pb,mb]:=by have:=HMB.out;simp;rw[HPB.out];omega
   have hx3:=hp3.x;have HZ3:=zH (hx3.cells HZ2.out hnb);have HZF3:=zH (zc4 HZF2.out HZ2.out.1 hx3 hnb);have HT3:=zH (Data.zeq HT2.out hx3 (zkd (Nat.le_of_lt HMB.out)));have HP3:=zH hp3;have HO3:=zH (Data.row_iff.2 (Data.zn6 hp3.own hsz3));have HS3:=zH hsl3;have HG3:=zH hg3;have HNB:=zH hnb;clear hp3 hsz3 hsl3 hg3 hx3 hnb KP2 KB HZ2 HZF2;go_wp2_with fail
   refine KB2.out.mono ?_;rintro e w4 (⟨ts,ks,vt,vk,q4,rfl,hc4,hf4,ho4,h4,hx4,hg4⟩|⟨⟨v,rfl⟩,hx4,hg4⟩)
   case inr=>
    have HT4:=zH (Data.zeq HT3.out hx4 (zkd (Nat.le_of_lt HMB.out)));have HG4:Hid (G=none):=zH (by rw[HG2.out,zmp,HG3.out];simp only;rw[hg4]);clear hx4 hg4 KB2;go_wp2_with fail
    exact ⟨rfl,.inr ⟨⟨_,rfl⟩,HT4.out,HG4.out⟩⟩
   obtain ⟨ta,tn,tc,rfl⟩:=Data.zbd (Data.zam.1 ho4.good (.row 9 1 vt (strs ts)) (by simp));obtain ⟨ka,kn,kc,rfl⟩:=Data.zbd (Data.zam.1 ho4.good (.row 25 5 vk (zhe ks)) (by simp));have HT4:=zH (Data.zeq HT3.out hx4 (zkd (Nat.le_of_lt HMB.out)));have HG4:Hid (G=some (⟨sel,false,ps,ts,Placed.zg2 ks⟩,rest P q4)):=zH (by rw[HG2.out,zmp,HG3.out];simp only;rw[hg4])
   have m0:=hc4.at 0 (.str sel) rfl;have m1:=hc4.at 1 (.bool false) rfl;have m2:=hc4.at 2 (.row 0 1 (.slice va ps.length vc) []) rfl;have m3:=hc4.at 3 (.row 0 1 (.slice ta tn tc) []) rfl;have m4:=hc4.at 4 (.row 0 5 (.slice ka kn kc) []) rfl;simp only[val] at m0 m1 m2 m3 m4;have hz4:=hx4.cells HZ3.out HNB.out;have fz:=zc4 HZF3.out HZ3.out.1 hx4 HNB.out;have z0:=hz4.at 0 (.str ⟨#[]⟩) rfl;have z1:=hz4.at 1 (.bool false) rfl
   have z2:=hz4.at 2 (.row 0 1 (.slice none 0 0) []) rfl;have z3:=hz4.at 3 (.row 0 1 (.slice none 0 0) []) rfl;have z4:=hz4.at 4 (.row 0 5 (.slice none 0 0) []) rfl;simp only[val] at z0 z1 z2 z3 z4;have hlt2:w2.heap.size<=w3.heap.size:=HP3.out.x.size;have hml:=HP3.out.lt
   have HO4:=zH (zob (cls:=false) HS3.out ((HO3.out.z9l hx4 (fun x hx hxF=>by have h1:=HO3.out.lo x hx;have h2:=HP3.out.lo.1;simp at hxF;omega) ho4 hlt2).mono (base':=w.heap.size+1) (by have:=HMB.out;omega)))
   have HI4:=zH h4;clear hc4 hf4 ho4 h4 hx4 hg4 hz4 KB2 HO3 HP3 HS3 HG3 HG2 HZ3 HZF3 HNB HT3 HT2 HPAT;go_wp2_with fail
   have hbf:=Data.zbl (zL w.heap.size) [.string sel,.bool false,.slice va ps.length vc,.slice ta tn tc,.slice ka kn kc] w4 w4 0 (zB _ _);refine bodyPost_ret (v:=.agg #[.string sel,.bool false,.slice va ps.length vc,.slice ta tn tc,.slice ka kn kc]) (by simp[results,Tryz.results53,go_sem, *]) rfl ?_;exact .inl ⟨_,_,q4,rfl,zk4 sel false (.slice va ps.length vc) (.slice ta tn tc) (.slice ka kn kc) ps ts ks,(Data.Own.zno (Nat.lt_succ_self _) [.string sel,.bool false,.slice va ps.length vc,.slice ta tn tc,.slice ka kn kc] w4 0 HO4.out).mono (Nat.le_succ _),HI4.out.low hbf HLO.out,HT4.out.low hbf,HG4.out⟩
end ParI
end Go.Proofs.YtlmhgeanknhcfaaGreatDoor
namespace Go.Proofs.YtlmhgeanknhcfaaGreatDoor.ParI
open Go.RowKit
open Strs Tree Gram
open Go.Proofs.YtlmhgeanknhcfaaGreatDoor.Parser
open Go.Proofs.YtlmhgeanknhcfaaGreatDoor.Data (D Cells Exc zaa strs zhe zbc za8 zcx zay M C val zae)
def cD (nm pa:ByteArray) (v2 v3:Value):List D:=[.str nm,.str pa,.row 0 1 v2 [],.row 0 5 v3 []]
structure ClS (P:Cst) (w:World) (cb:Nat) (nm pa:ByteArray) (fs:List ByteArray) (fv:Value) (l1:Nat) (q:Nat) (mv:Value) (wr:World):Prop where
 z:Cells w.heap.size (cD ⟨#[]⟩ ⟨#[]⟩ (.slice none 0 0) (.slice none 0 0)) wr
 zf:∀ o,wr.frozen? ⟨w.heap.size,o,none⟩=false
 c:Cells cb (cD nm pa fv mv) wr
 cf:∀ o,wr.frozen? ⟨cb,o,none⟩=false
 lt:w.heap.size<cb
 cl:cb<l1
 own:Data.Own (cb+1) wr [.row 9 1 fv (strs fs)]
 hi:∀ b,b∈Data.zah [D.row 9 1 fv (strs fs)]->b<l1
 le:l1<=wr.heap.size
 is:IS P q wr
 turn:za2 P w wr
 lo:Lo P w.heap.size
section
variable {P:Cst} {w:World} {cb:Nat} {nm pa:ByteArray} {fs:List ByteArray} {fv:Value} {l1 q q':Nat} {mv:Value} {wr w':World}
theorem ClS.go (h:ClS P w cb nm pa fs fv l1 q mv wr) (ht:za2 P wr w') (h':IS P q' w'):ClS P w cb nm pa fs fv l1 q' mv w':=by
 have hx:=Data.zb4 ht [P.pb] (by simp);have hp:=h.lo.1;have hl:=h.lt;have n1:w.heap.size∉[P.pb]:=by simp;omega
 have n2:cb∉[P.pb]:=by simp;omega
 exact ⟨hx.cells h.z n1,zc4 h.zf h.z.1 hx n1,hx.cells h.c n2,zc4 h.cf h.c.1 hx n2,h.lt,h.cl,h.own.exc hx (fun x hx=>by simp at hx;omega),h.hi,Nat.le_trans h.le ht.size,h',h.turn.trans ht,h.lo⟩
theorem ClS.below (h:ClS P w cb nm pa fs fv l1 q mv wr) (hb:Below wr.heap.size wr w'):ClS P w cb nm pa fs fv l1 q mv w':=h.go ((za2.refl P wr).below hb) (h.is.below hb)
theorem ClS.low (h:ClS P w cb nm pa fs fv l1 q mv wr) (hb:Below l1 wr w'):ClS P w cb nm pa fs fv l1 q mv w':=by have h1:=h.lt;have h2:=h.cl;exact ⟨Data.zbs h.z hb (by omega),Data.zb3 h.zf hb (by omega),Data.zbs h.c hb (by omega),Data.zb3 h.cf hb (by omega),h.lt,h.cl,h.own.frame (fun b hbb=>hb.block b (h.hi b hbb)),h.hi,Nat.le_trans h.le hb.size,h.is.low hb (h.lo.le (by omega)),h.turn.low (hb.mono (by omega)),h.lo⟩
theorem zrw {base g o:Nat} {u:World} {ds:List D} (h:Data.Own base u ds) (hg:g<base) (v:Value):Data.Own base (u.setCell ⟨g,o,none⟩ v) ds:=h.zyw hg o v
theorem ClS.put (h:ClS P w cb nm pa fs fv l1 q mv wr) (v:Value) (j:Nat):Cells w.heap.size (cD ⟨#[]⟩ ⟨#[]⟩ (.slice none 0 0) (.slice none 0 0)) (wr.setCell ⟨cb,j,none⟩ v)/\IS P q (wr.setCell ⟨cb,j,none⟩ v)/\za2 P w (wr.setCell ⟨cb,j,none⟩ v)/\l1<=(wr.setCell ⟨cb,j,none⟩ v).heap.size:=by have h1:=h.lt;have hb:Below cb wr (wr.setCell ⟨cb,j,none⟩ v):=(zB _ _).setCell (by show cb<=cb;omega) _;exact ⟨Data.zb5 h.z v (by omega),h.is.set (h.lo.le (by omega)) _ _,h.turn.low (hb.mono (by omega)),by have:=h.le;simpa [World.setCell] using this⟩
theorem ClS.par (h:ClS P w cb nm pa fs fv l1 q mv wr) (x:ByteArray):ClS P w cb nm x fs fv l1 q mv (wr.setCell ⟨cb,1,none⟩ (.string x)):=by obtain ⟨a,b,c,d⟩:=h.put (.string x) 1;exact ⟨a,zbg h.zf _ _,Data.Cells.set h.c 1 (.str x) (by show 1<4;decide) (h.cf 1),zbg h.cf _ _,h.lt,h.cl,zrw h.own (Nat.lt_succ_self _) _,h.hi,d,b,c,h.lo⟩
theorem ClS.z9x (h:ClS P w cb nm pa fs fv l1 q mv wr) (v:Value):ClS P w cb nm pa fs fv l1 q v (wr.setCell ⟨cb,3,none⟩ v):=by obtain ⟨a,b,c,d⟩:=h.put v 3;exact ⟨a,zbg h.zf _ _,Data.Cells.set h.c 3 (.row 0 5 v []) (by show 3<4;decide) (h.cf 3),zbg h.cf _ _,h.lt,h.cl,zrw h.own (Nat.lt_succ_self _) _,h.hi,d,b,c,h.lo⟩
theorem ClS.yfn (h:ClS P w cb nm pa fs fv l1 q mv wr) {ts:List ByteArray} {v:Value} (ho:wr.ownsRow (cb+1) 9 1 v ts.length (ts.map Value.string)) (hs:∀ x,x∈ts->x.size<=maxLen):ClS P w cb nm pa ts v wr.heap.size q mv (wr.setCell ⟨cb,2,none⟩ v):=by obtain ⟨a,b,c,d⟩:=h.put v 2;have hr:=Data.row_iff.2 (Data.zn6 ho hs);exact ⟨a,zbg h.zf _ _,Data.Cells.set h.c 2 (.row 0 1 v []) (by show 2<4;decide) (h.cf 2),zbg h.cf _ _,h.lt,Nat.lt_of_lt_of_le h.cl h.le,zrw hr (Nat.lt_succ_self _) _,fun b hb=>hr.lt b hb,by simp[World.setCell],b,c,h.lo⟩
end
def zf5 (ex:X) (r:R):Option (C×R):=if wd zfm r then zdj ex r.tail else none
def yfc (P:Cst) (w:World) (g:Option (C×R)) (e:Ending) (w':World):Prop:=
 (∃ ds c q,e=.returned (Data.agg ds)/\zaa ds=zcx c/\Data.Own w.heap.size w' ds/\IS P q w'/\za2 P w w'/\g=some (c,rest P q))\/(zsr e/\za2 P w w'/\g=none)
def z1j (ex:X) (nm pa:ByteArray) (r:R):Option (C×R):=
 match zce ex [] (Gram.fields r).2 with
 | none=>none
 | some (ms,r1)=>some (⟨nm,pa,(Gram.fields r).1,ms⟩,r1)
theorem yao {ex:X} {r:R} (h:wd zfm r=true) (h1:hd 1 r.tail=true) (h2:wd ze6 r.tail.tail=true) (h3:hd 1 r.tail.tail.tail=true):zf5 ex r=z1j ex (txt r.tail) (txt r.tail.tail.tail) r.tail.tail.tail.tail:=by unfold zf5 zdj;rw[if_pos h,h1,h2,h3];rfl
theorem z4e {ex:X} {r:R} (h:wd zfm r=false):zf5 ex r=none:=by unfold zf5;rw[h];rfl
theorem z6y {ex:X} {r:R} (h:wd zfm r=true) (h1:hd 1 r.tail=false):zf5 ex r=none:=by unfold zf5 zdj;rw[if_pos h,h1];rfl
theorem z5s {ex:X} {r:R} (h:wd zfm r=true) (h1:hd 1 r.tail=true) (h2:wd ze6 r.tail.tail=false):zf5 ex r=none:=by unfold zf5 zdj;rw[if_pos h,h1,h2];rfl
theorem z5n {ex:X} {r:R} (h:wd zfm r=true) (h1:hd 1 r.tail=true) (h2:wd ze6 r.tail.tail=true) (h3:hd 1 r.tail.tail.tail=false):zf5 ex r=none:=by unfold zf5 zdj;rw[if_pos h,h1,h2,h3];rfl
theorem zjl (ms:List M) (m:M):za8 (ms++[m])=za8 ms++zbc m:=by
 induction ms with
 | nil=>simp[za8]
 | cons x xs ih=>rw[List.cons_append,za8,za8,ih,List.append_assoc]
theorem zj6 {w:World} {ds:List D} {m:M} (h:zaa ds=zbc m) (hg:Data.zb2 w ds):∃ a2 n2 c2 a3 n3 c3 a4 n4 c4,Data.vals ds=[.string m.sel,.bool m.cls,.slice a2 n2 c2,.slice a3 n3 c3,.slice a4 n4 c4]:=by obtain ⟨t2,t3,t4,v2,v3,v4,d4,rfl,-⟩:=Data.zh1 h;obtain ⟨a2,n2,c2,rfl⟩:=Data.zbd (Data.zam.1 hg (.row t2 1 v2 (strs m.params)) (by simp));obtain ⟨a3,n3,c3,rfl⟩:=Data.zbd (Data.zam.1 hg (.row t3 1 v3 (strs m.temps)) (by simp));obtain ⟨a4,n4,c4,rfl⟩:=Data.zbd (Data.zam.1 hg (.row t4 5 v4 d4) (by simp));exact ⟨a2,n2,c2,a3,n3,c3,a4,n4,c4,rfl⟩
theorem zuk (nm pa:ByteArray) (v2 v3:Value) (fs:List ByteArray) (ms:List M) (ds:List D) (h:zaa ds=za8 ms):zaa [.str nm,.str pa,.row 9 1 v2 (strs fs),.row 41 5 v3 ds]=zcx ⟨nm,pa,fs,ms⟩:=by simp only[zaa,Data.erase,zcx,Data.zb0,Data.zzk,h]
theorem z3w {base:Nat} {w:World} {nm pa:ByteArray} {v2 v3:Value} {fs:List ByteArray} {ds:List D} (h1:nm.size<=maxLen) (h2:pa.size<=maxLen) (h:Data.Own base w [.row 9 1 v2 (strs fs),.row 41 5 v3 ds]):
  Data.Own base w [.str nm,.str pa,.row 9 1 v2 (strs fs),.row 41 5 v3 ds]:=
 (((Data.zv0 (base:=base) (w:=w) h1).append (Data.zv0 h2) (fun x hx=>by simp[Data.zah,Data.foot] at hx)).append h (fun x hx=>by simp[Data.zah,Data.foot] at hx):Data.Own base w (([.str nm]++[.str pa])++_))
end Go.Proofs.YtlmhgeanknhcfaaGreatDoor.ParI
namespace Go.Proofs.YtlmhgeanknhcfaaGreatDoor
namespace ParI
open Go.RowKit
open Strs Tree Gram
open Go.Proofs.YtlmhgeanknhcfaaGreatDoor.Parser
open Go.Proofs.YtlmhgeanknhcfaaGreatDoor.Data (D Cells Exc zaa strs zhe zbc zay M val zae)
theorem zq8 {B:Nat}:∀ (vs pre post:List D) (w:World),Cells B (pre++post) w->post.length=vs.length->(∀ o,w.frozen? ⟨B,o,none⟩=false)->Cells B (pre++vs) (Data.puts w B pre.length (Data.vals vs)):=by
 intro vs
 induction vs with
 | nil=>intro pre post w h hl hf;have:post=[]:=List.eq_nil_of_length_eq_zero (by simpa using hl);subst this;exact h
 | cons v vs ih=>
  intro pre post w h hl hf;cases post with
  | nil=>simp at hl
  | cons d post=>
   have h1:=Data.Cells.set h pre.length v (by simp) (hf _);have e:(pre++d::post).set pre.length v=(pre++[v])++post:=by simp
   rw[e] at h1;have h2:=ih (pre++[v]) post _ h1 (by simpa using hl) (zbg hf _ _);have e2:(pre++[v]).length=pre.length+1:=by simp
   rw[e2,List.append_assoc] at h2;exact h2
theorem zu4 {B x:Nat} (hx:x≠B):∀ (vs:List Value) (w:World) (p:Nat),(Data.puts w B p vs).heap[x]?=w.heap[x]?:=by
 intro vs
 induction vs with
 | nil=>intro w p;rfl
 | cons v vs ih=>intro w p;exact (ih _ _).trans (Below.heap_setCell _ _ _ _ (fun e=>hx e))
theorem zy3 {F:List Nat} {a b:World} {B:Nat} (h:Exc F a b) (hB:B∈F):∀ (vs:List Value) (p:Nat),Exc F a (Data.puts b B p vs):=by
 intro vs
 induction vs generalizing b with
 | nil=>intro p;exact h
 | cons v vs ih=>intro p;exact ih (h.set v hB) (p+1)
theorem zow {base:Nat} {w:World}:Data.Own base w [.str ⟨#[]⟩,.bool false,.row 9 1 (.slice none 0 0) (strs []),.row 9 1 (.slice none 0 0) (strs []),.row 25 5 (.slice none 0 0) (zhe [])]:=
 zob (sel:=⟨#[]⟩) (cls:=false) (Nat.zero_le _) (Data.Own.append (a:=[.row 9 1 (.slice none 0 0) (strs [])]) (Data.row_iff.2 (Data.Row.nil _ _ _ _ (by decide))) (Data.Own.append (a:=[.row 9 1 (.slice none 0 0) (strs [])]) (b:=[.row 25 5 (.slice none 0 0) (zhe [])]) (Data.row_iff.2 (Data.Row.nil _ _ _ _ (by decide))) (Data.row_iff.2 (Data.Row.nil _ _ _ _ (by decide))) (fun x hx=>nomatch (show x∈([]:List Nat) from hx))) (fun x hx=>nomatch (show x∈([]:List Nat) from hx)))
theorem zs0 {base:Nat} {w:World}:Data.Own base w [.row 75 4 (.slice none 0 0) [],.str ⟨#[]⟩,.bool false,.row 9 1 (.slice none 0 0) (strs []),.row 9 1 (.slice none 0 0) (strs []),.row 25 5 (.slice none 0 0) (zhe [])]:=
 Data.Own.append (a:=[.row 75 4 (.slice none 0 0) []]) (Data.row_iff.2 (Data.Row.nil _ _ _ _ (by decide))) zow (fun x hx=>nomatch (show x∈([]:List Nat) from hx))
end ParI
end Go.Proofs.YtlmhgeanknhcfaaGreatDoor
