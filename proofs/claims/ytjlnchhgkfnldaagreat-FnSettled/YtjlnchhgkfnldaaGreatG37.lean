import Derived.Deep.RegionLaw
import Derived.Lib.ConvBytes
import Derived.Test.YtjlnchhgkfnldaaGreatG34
import Derived.Deep.DeepCutAuto
namespace Go.Proofs.YtjlnchhgkfnldaaGreat
set_option maxHeartbeats 16000000
set_option maxRecDepth 100000
open Go.RowKit
theorem zaA{P:Program}{ops:Array Oper}{o:Oper}{a:Act}{w:World}{K:Act→World→Prop}{Q:Exit→Act→World→Prop}{E:Prop}
 (hg:o.guard=none) (s x:Operand) (t:TypeId) (hop:o.op=Op.call { callee:=Callee.builtin Builtin.append,args:=#[s,x],argTypes:=#[t,t] })
 (base:Nat) (e:TypeId) (i:TypeInfo) (z:Value) (size bytes:Nat) (h1:P.underlying t=some (.slice e)) (h2:P.info? e=some i) (h3:i.zero=some z) (h4:i.size=size) (h5:i.bytes=bytes) (h6:z.cells.size=size) (h7:0<size)
 (v:Value) (n:Nat) (xs:List Value) (hs:a.eval s=v) (hown:w.ownsRow base e size v n xs)
 (ad:Addr) (m c:Nat) (news:List Value) (hx:a.eval x=.slice (some ad) m c) (hn:news.length=m*size) (hc:∀ j u,news[j]? = some u→w.cell? (ad.add j)=some u) (h1c:∀ u∈news,u.oneCell'=true)
 (b1:n+m≤maxLen) (b2:(n+m)*bytes≤140737488355328) (hbase:base≤w.heap.size)
 (hK:∀ v' w',w'.ownsRow base e size v' (n+m) (xs++news)→w.grownBy w' v.ownBlock→K (a.put o.dst v') w') :
 if Region.wanted o (yielded ops a.tmps)=true then Oper.wp P o a w K Q else E:=by
 have hw:Region.wanted o (yielded ops a.tmps)=true:=by simp[Region.wanted,hg]
 rw[if_pos hw];obtain⟨v',w',hrun,r1,r2,_⟩:=run_append_own (P:=P) w base t o.type e i z size bytes h1 h2 h3 h4 h5 h6 h7 v n xs hown ad m c news hn hc h1c b1 b2 hbase;unfold Oper.wp;simp[execOp,hop,resolve,invoke,builtin,hs,hx,hrun,Result.andThen];exact hK v' w' r1 r2
def Wr(w:World)(B:Nat)(v:Value)(ys:List UInt8):Prop :=
 (v=.slice none 0 0∧ys=[])∨∃ g cap,v=.slice (some ⟨g,0,none⟩) ys.length cap∧B≤g∧ys.length≤cap∧cap≤maxLen∧g<w.heap.size ∧
  ∀ i (h:i<ys.length),w.cell? ⟨g,i,none⟩=some (.int .u8 (ys[i].toNat:Int))∧w.frozen? ⟨g,i,none⟩=false
theorem Own.wr{w:World}{B:Nat}{v:Value}{ys:List UInt8}(h:Own w B v ys):Wr w B v ys:=by
 have h':=h;rcases h.2 with ⟨rfl,h0⟩ | ⟨g,cap,cur,rfl,hb,hg,hn,hc,_⟩
 ·exact .inl ⟨rfl,List.length_eq_zero_iff.1 h0⟩
 ·refine .inr ⟨g,cap,rfl,hb,hn,hc,(Array.getElem?_eq_some_iff.1 hg).1,fun i hi=>⟨?_,World.ownsRow.frozenAt h' i⟩⟩;have:=World.ownsRow.cellAt h' i (by omega);rw[zhw ys i hi] at this;exact this
theorem Wr.kept{w w':World}{B:Nat}{v:Value}{ys:List UInt8}{row:Option Nat}(h:Wr w B v ys)(hg:w.grownBy w' row)(hr:∀ k,row=some k→k<B):Wr w' B v ys:=by
 rcases h with h | ⟨g,cap,hv,hB,h1,h2,h3,h4⟩
 ·exact .inl h
 ·have hb:=hg.block g h3 (fun e=>by have:=hr g e.symm;omega);exact .inr ⟨g,cap,hv,hB,h1,h2,by have:=hg.size;omega,fun i hi=>⟨(World.cell?_of_block (w:=w) (a:=⟨g,i,none⟩) hb).trans (h4 i hi).1,(World.frozen?_of_block (w:=w) (a:=⟨g,i,none⟩) hb).trans (h4 i hi).2⟩⟩
theorem Wr.conv{w:World}{B:Nat}{v:Value}{ys:List UInt8}(h:Wr w B v ys):(convert 22 9 v).run Tryz.prog w=.ok (.string ⟨ys.toArray⟩) w:=by
 rcases h with ⟨rfl,rfl⟩ | ⟨g,cap,rfl,_,_,_,_,h4⟩
 ·exact run_convert_bytes_nil w 22 5 Tryz.underlying22 Tryz.underlying5 0 0 9 Tryz.underlying9
 ·exact zgU w g 0 ys.length cap ys rfl fun j hj=>by rw[Nat.zero_add];exact(h4 j hj).1
theorem Wr.rd{w:World}{B:Nat}{v:Value}{ys:List UInt8}(h:Wr w B v ys):Rd w v ys:=by
 rcases h with ⟨rfl,rfl⟩ | ⟨g,cap,rfl,_,h1,h2,_,h4⟩
 ·exact⟨none,0,rfl,nR _,Nat.zero_le _,.inl rfl⟩
 ·exact⟨some ⟨g,0,none⟩,cap,rfl,h1,h2,.inr ⟨g,0,rfl,fun i hi=>by rw[Nat.zero_add];exact(h4 i hi).1⟩⟩
theorem Wr.below{w w':World}{B:Nat}{v:Value}{ys:List UInt8}(h:Wr w B v ys)(hb:Below w.heap.size w w'):Wr w' B v ys:=by
 rcases h with h | ⟨g,cap,hv,hB,h1,h2,h3,h4⟩
 ·exact .inl h
 ·exact .inr ⟨g,cap,hv,hB,h1,h2,by have:=hb.size;omega,fun i hi=>⟨(hb.cell (p:=⟨g,i,none⟩) h3).trans (h4 i hi).1,(hb.frozen (p:=⟨g,i,none⟩) h3).trans (h4 i hi).2⟩⟩
theorem Wr.mono{w:World}{B B':Nat}{v:Value}{ys:List UInt8}(h:Wr w B v ys)(hB:B'≤B):Wr w B' v ys:=by
 rcases h with h | ⟨g,cap,hv,h1,h2⟩
 ·exact .inl h
 ·exact .inr ⟨g,cap,hv,by omega,h2⟩
theorem zoA(w:World)(s:ByteArray)(hs:s.size≤maxLen):Wr (Lib.bytesWorld w 5 s) w.heap.size (.slice (some ⟨w.heap.size,0,none⟩) s.size (grownCap w s.size 0 5)) s.data.toList:=by
 have hl:s.data.toList.length=s.size:=by rw[Array.length_toList];rfl
 refine .inr ⟨w.heap.size,_,by rw[hl],nR _,by rw[hl];exact grownCap_ge w s.size 0 _,grownCap_le_maxLen w s.size 0 _ hs,by rw[Lib.bytesWorld_size];omega,fun i hi=>⟨?_,?_⟩⟩
 ·rw[Lib.bytesWorld_cell w _ s i (by omega)];simp[List.getD,List.getElem?_eq_getElem hi]
 ·have hc:s.size≤(Lib.bytesCells w 5 s).size:=by unfold Lib.bytesCells;simp
  simp only[World.frozen?,Lib.bytesWorld_at_new];simp;omega
theorem zgF(w:World)(s:ByteArray)(row:Option Nat):w.grownBy (Lib.bytesWorld w 5 s) row :=
 ⟨rfl,rfl,rfl,by rw[Lib.bytesWorld_size];omega,fun k hk _=>Lib.bytesWorld_at_old w _ s k hk⟩
theorem Wr.stored{w:World}{B g cap:Nat}{ys:List UInt8}(hB:B≤g)(h1:ys.length≤cap)(h2:cap≤maxLen)(h3:g<w.heap.size)(h4:∀ i (h:i<ys.length),w.cell? ⟨g,i,none⟩=some (.int .u8 (ys[i].toNat:Int))∧w.frozen? ⟨g,i,none⟩=false)(k:Nat)(hk:k<ys.length)(b:UInt8) :
 Wr (w.setCell ⟨g,k,none⟩ (.int .u8 (b.toNat:Int))) B (.slice (some ⟨g,0,none⟩) ys.length cap) (ys.set k b):=by
 refine .inr ⟨g,cap,by rw[List.length_set],hB,by rw[List.length_set];exact h1,h2,by simpa using h3,fun i hi=>?_⟩;rw[List.length_set] at hi;refine⟨?_,(World.frozen?_setCell _ _ _ _).trans (h4 i hi).2⟩;by_cases hik:k=i
 ·subst hik;rw[World.cell?_setCell_same _ _ _ (h4 k hk).1];simp
 ·rw[World.cell?_setCell_other _ _ _ _ (by simp),(h4 i hi).1];simp[hik]
theorem Wr.headed{w:World}{B g cap:Nat}{ys:List UInt8}(hB:B≤g)(h1:ys.length≤cap)(h2:cap≤maxLen)(h3:g<w.heap.size)(h4:∀ i (h:i<ys.length),w.cell? ⟨g,i,none⟩=some (.int .u8 (ys[i].toNat:Int))∧w.frozen? ⟨g,i,none⟩=false)(k:Nat)(hk:k<ys.length) :
 Wr w B (.slice (some ⟨g,0,none⟩) k cap) (ys.take k):=by
 have hl:(ys.take k).length=k:=by rw[List.length_take];omega
 refine .inr ⟨g,cap,by rw[hl],hB,by omega,h2,h3,fun i hi=>?_⟩;rw[hl] at hi;rw[List.getElem_take];exact h4 i (by omega)
def Keep(w0 w:World)(g:Nat)(W:World):Prop:=DCur w0 W g∧w.grownBy W (some g)∧g<w.heap.size
theorem Keep.step{w0 w W W':World}{g:Nat}{row:Option Nat}(h:Keep w0 w g W)(hg:W.grownBy W' row)(hr:∀ k,row=some k→w.heap.size≤k):Keep w0 w g W' :=
 ⟨h.1.grow hg (fun k hk=>by have:=hr k hk;have:=h.2.2;omega),zaN h.2.1 hg hr,h.2.2⟩
theorem Keep.own{w0 w W W':World}{g:Nat}(h:Keep w0 w g W)(hc:DCur w0 W' g)(hg:W.grownBy W' (some g)):Keep w0 w g W':=⟨hc,zq h.2.1 hg,h.2.2⟩
def RowAt(W:World)(g1:Nat)(ys:List UInt8):Prop:=g1<W.heap.size∧∀ i (h:i<ys.length),W.cell? ⟨g1,i,none⟩=some (.int .u8 (ys[i].toNat:Int))∧W.frozen? ⟨g1,i,none⟩=false
theorem RowAt.step{W W':World}{g1:Nat}{ys:List UInt8}{row:Option Nat}(h:RowAt W g1 ys)(hg:W.grownBy W' row)(hr:row≠some g1):RowAt W' g1 ys:=by
 have hb:=hg.block g1 h.1 (fun e=>hr e.symm);exact⟨by have:=h.1;have:=hg.size;omega,fun i hi=>⟨(World.cell?_of_block (w:=W) (a:=⟨g1,i,none⟩) hb).trans (h.2 i hi).1,(World.frozen?_of_block (w:=W) (a:=⟨g1,i,none⟩) hb).trans (h.2 i hi).2⟩⟩
theorem RowAt.head{W:World}{g1 k:Nat}{ys:List UInt8}(h:RowAt W g1 ys)(hk:k≤ys.length):∀ j u,(BV (ys.take k))[j]? = some u→W.cell? ((⟨g1,0,none⟩:Addr).add j)=some u:=by
 intro j u hj;have hjl:j<(ys.take k).length:=by have:=(List.getElem?_eq_some_iff.1 hj).1;rwa [zbR] at this
 rw[zhw _ j hjl] at hj;cases hj
 rw[List.length_take] at hjl;rw[Addr.add_lit,Nat.zero_add,(h.2 j (by omega)).1,List.getElem_take]
theorem RowAt.tail{W:World}{g1 k:Nat}{ys:List UInt8}(h:RowAt W g1 ys):∀ j u,(BV (ys.drop k))[j]? = some u→W.cell? ((⟨g1,k,none⟩:Addr).add j)=some u:=by
 intro j u hj;have hjl:j<(ys.drop k).length:=by have:=(List.getElem?_eq_some_iff.1 hj).1;rwa [zbR] at this
 rw[zhw _ j hjl] at hj;cases hj
 rw[List.length_drop] at hjl;rw[Addr.add_lit,(h.2 (k+j) (by omega)).1,List.getElem_drop]
theorem zhr(bs:List UInt8):∀ u∈BV bs,u.oneCell'=true:=by
 intro u hu;obtain⟨_,_,rfl⟩:=List.mem_map.1 hu;rfl
theorem zfe{W:World}{B n m:Nat}{v:Value}{ys zs:List UInt8}(hn:n=ys.length)(hm:m=zs.length)(h:W.ownsRow B 5 1 v (n+m) (BV ys++BV zs)):Own W B v (ys++zs):=by
 subst hn;subst hm;unfold Own;rw[zeE,lA];exact h
theorem zni(w0 w:World)(g:Nat)(s sgn:ByteArray)(h:DCur w0 w g)(hs:s.size≤1048576)(hg0:0<sgn.size)(hg1:sgn.size≤100) :
 Calls Tryz.prog 121 #[.pointer (some ⟨g,0,none⟩),.string s,.string sgn] w fun e w'=>TextD w0 w g (s.size+3) e w':=by
 obtain⟨i0,hi,hz0,hz1,hz2⟩:=info_parts Tryz.info5;have hlt:=h.lt;have hcvb:=zdW w s;have hwr:=zoA w s (by unfold maxLen;omega);have hgr:=zgF w s (some g);have hdc:=h.grow (zgF w s none) (fun k hk=>by cases hk);have hsl:s.data.toList.length≤s.size:=by rw[Array.length_toList];exact nR _
 generalize s.data.toList=ys0 at hwr hsl;generalize Lib.bytesWorld w 5 s=W at hcvb hwr hgr hdc;generalize grownCap w s.size 0 5=c0 at hcvb hwr;go_enter Tryz.func121,Tryz.ntmps121
 go_wp2_with fail
 refine(zB w0 _ g 3 hdc (by omega) (by omega)).mono ?_;rintro e w1 ⟨x,rfl,hx0,hx1,hc,hg⟩;have ho1:=hwr.kept hg (fun k hk=>by simp at hk;omega);have hgr1:=zq hgr hg;clear hwr hdc hgr h hg hcvb;go_wp2;go_loopw [7,8] (fun bb nn wr=>∃ (m:Nat) (ys:List UInt8),nn=.int .i64 m∧m≤2∧ys.length+m≤s.size+2∧Wr wr w.heap.size bb ys∧DCur w0 wr g∧w.grownBy wr (some g)) (fun _ nn _=>(intOf nn).toNat)
 case atStart =>
  obtain⟨m,rfl⟩:=Int.eq_ofNat_of_zero_le hx0;exact⟨m,ys0,rfl,by omega,by omega,ho1,hc,hgr1⟩
 case round =>
  obtain⟨m,ys,rfl,hm2,hym,ho,hdc,hgw⟩:=hrel;clear ho1 hc hgr1;have hsz:=hgw.size;have hcv:=ho.conv;have hend:(⟨ys.toArray⟩:ByteArray).size≤s.size+3:=by show ys.toArray.size≤_;simp;omega
  rcases ho with ⟨hv,hy⟩ | ⟨g1,cap,hv,hB,h1,h2,h3,h4⟩
  ·subst hv;subst hy;by_cases hm:0<m
   ·go_wp2;go_ret;exact⟨_,rfl,hend,hdc,hgw⟩
   ·go_wp2;go_ret;exact⟨_,rfl,hend,hdc,hgw⟩
  subst hv;by_cases hm:0<m
  ·by_cases hl:0<ys.length
   ·have H4:Hid (∀ i (h:i<ys.length),wr.cell? ⟨g1,i,none⟩=some (.int .u8 (ys[i].toNat:Int))∧wr.frozen? ⟨g1,i,none⟩=false):=h4;have Hmax:Hid (cap≤maxLen):=h2;unfold maxLen at h2;clear h4 hcv hend;go_wp2_with fail
    refine(zB w0 _ g _ hdc (by omega) (by omega)).mono ?_;rintro e w2 ⟨k',rfl,hk0,hk1,hc2,hg2⟩;obtain⟨k,rfl⟩:=Int.eq_ofNat_of_zero_le hk0;have hkl:k<ys.length:=(by omega);go_wp2_with fail
    refine(zB w0 _ g 4 hc2 (by omega) (by omega)).mono ?_;rintro e w3 ⟨y,rfl,hy0,hy1,hc3,hg3⟩;have hg23:=zq hg2 hg3;have hgw3:=zq hgw hg23;have hb3:=hg23.block g1 h3 (fun e=>by simp at e;omega);have h33:g1<w3.heap.size:=(by have:=hg23.size;omega);have H43:Hid (∀ i (h:i<ys.length),w3.cell? ⟨g1,i,none⟩=some (.int .u8 (ys[i].toNat:Int))∧w3.frozen? ⟨g1,i,none⟩=false):=fun i hi=>⟨(World.cell?_of_block (w:=wr) (a:=⟨g1,i,none⟩) hb3).trans (H4.out i hi).1,(World.frozen?_of_block (w:=wr) (a:=⟨g1,i,none⟩) hb3).trans (H4.out i hi).2⟩
    have hsz3:=hgw3.size;clear hb3 hg23 hg2 hg3 hc2 H4 hdc hgw hk0;by_cases e0:y=0
    ·subst e0;go_wp2_with fail
     refine(zB w0 _ g _ hc3 (by omega) (by omega)).mono ?_;rintro e w4 ⟨z',rfl,hq0,hq1,hc4,hg4⟩;obtain⟨z,rfl⟩:=Int.eq_ofNat_of_zero_le hq0;have hzl:z<sgn.size:=(by omega);have hb4:=hg4.block g1 h33 (fun e=>by simp at e;omega);have H44:Hid (∀ i (h:i<ys.length),w4.cell? ⟨g1,i,none⟩=some (.int .u8 (ys[i].toNat:Int))∧w4.frozen? ⟨g1,i,none⟩=false):=fun i hi=>⟨(World.cell?_of_block (w:=w3) (a:=⟨g1,i,none⟩) hb4).trans (H43.out i hi).1,(World.frozen?_of_block (w:=w3) (a:=⟨g1,i,none⟩) hb4).trans (H43.out i hi).2⟩
     obtain⟨hck,hfk⟩:=H44.out k hkl;have h34:g1<w4.heap.size:=(by have:=hg4.size;omega);have hgw4:=zq hgw3 hg4;clear hb4 H43 hc3 hgw3 hg4 hq0;have R1:Wr (w4.setCell ⟨g1,k,none⟩ (.int .u8 ((sgn[z]'hzl).toNat:Int))) w.heap.size (.slice (some ⟨g1,0,none⟩) ys.length cap) (ys.set k (sgn[z]'hzl)):=Wr.stored hB h1 Hmax.out h34 H44.out k hkl _;have R2:DCur w0 (w4.setCell ⟨g1,k,none⟩ (.int .u8 ((sgn[z]'hzl).toNat:Int))) g:=hc4.grow (zcV _) (fun j hj=>by simp at hj;omega);have R3:w.grownBy (w4.setCell ⟨g1,k,none⟩ (.int .u8 ((sgn[z]'hzl).toNat:Int))) (some g):=zaN hgw4 (zcV _) (fun j hj=>by simp at hj;omega);clear hc4 hgw4 H44;go_wp2;go_roundw
     case rel=>exact⟨m-1,_,by go_num,by omega,by rw[List.length_set];omega,R1,R2,R3⟩
     case measure=>simp[intOf];omega
    by_cases e1:y=1
    ·subst e1;have R1:=Wr.headed hB h1 Hmax.out h33 H43.out k hkl;have R4:(ys.take k).length≤ys.length:=(by rw[List.length_take];omega);generalize ys.take k=zs at R1 R4;go_wp2;go_roundw
     case rel=>exact⟨m-1,zs,by go_num,by omega,by omega,R1,hc3,hgw3⟩
     case measure=>simp[intOf];omega
    by_cases e2:y=2
    ·subst e2;have HK:Keep w0 w g w3:=⟨hc3,hgw3,hlt⟩;have HR:RowAt w3 g1 ys:=⟨h33,H43.out⟩;have HK1:Keep w0 w g (w3.alloc (.cells #[] 5)).drew:=HK.step (zbz (zav (zaY w3 none) _) 1) (fun k hk=>by cases hk);have HR1:RowAt (w3.alloc (.cells #[] 5)).drew g1 ys:=HR.step (zbz (zav (zaY w3 none) (.cells #[] 5)) 1) (fun e=>by cases e);have HA1:((w3.alloc (.cells #[] 5)).drew).ownsRow w.heap.size 5 1 (.slice (some ⟨w3.heap.size,0,none⟩) 0 0) 0 (BV []):=(zcB w3).mono hsz3;have htk:(ys.take k).length=k:=(by rw[List.length_take];omega);have hdk:(ys.drop (k+1)).length=ys.length-(k+1):=List.length_drop;have HZ:Hid (w3.heap.size≠g1):=(by show _≠_;omega);have Htk:Hid ((ys.take k).length=k):=htk;have Hdk:Hid ((ys.drop (k+1)).length=ys.length-(k+1)):=hdk;have hkc:k≤cap:=(by omega);have hkc1:k+1≤ys.length:=(by omega);have hkc2:(k:Int)+1≤(ys.length:Int):=(by omega);have hkc3:k≤ys.length:=(by omega);have hkc4:k+1≤cap:=(by omega);have hbs:ys.length≤1048578:=(by omega);clear htk hdk HK HR hc3 hgw3 H43;by_cases hcap:cap=k+1
     ·subst hcap;have hnil:ys.drop (k+1)=[]:=List.drop_eq_nil_of_le h1;have Hnil:Hid (ys.drop (k+1)=[]):=hnil;have hl0:ys.length-(k+1)=0:=(by omega);have hki:(k:Int)≤(k:Int)+1:=(by omega);clear hnil;go_wp2;have hwr1:IntKind.i64.wrap ((k:Int)+1)=(k:Int)+1:=(by rw[IntKind.wrap_i64];omega);have htn1:((k:Int)+1).toNat=k+1:=(by omega);have hnn1:(0:Int)≤(k:Int)+1:=(by omega);go_region_law (first
       | (refine zaA rfl (.tmp 47) (.tmp 50) 22 rfl w.heap.size 5 i0 (.int .u8 0) 1 1 Tryz.underlying22 hi hz0 hz1 hz2 rfl (by decide) (.slice (some ⟨w3.heap.size,0,none⟩) 0 0) 0 (BV []) rfl HA1 ⟨g1,0,none⟩ k (k+1) (BV (ys.take k)) rfl (by rw[zbR,Htk.out,Nat.mul_one]) (HR1.head hkc3) (zhr _) (by unfold maxLen;omega) (by omega) (by simp;omega) ?_;intro v1 wA hoA hgA;have HKA:=HK1.step hgA (fun j hj=>(oL HA1 j hj).1);have HRA:=HR1.step hgA (fun e=>HZ.out (by simpa [Value.ownBlock] using e)))
       | (refine zaA rfl (.tmp 51) (.tmp 55) 22 rfl w.heap.size 5 i0 (.int .u8 0) 1 1 Tryz.underlying22 hi hz0 hz1 hz2 rfl (by decide) v1 _ _ rfl hoA ⟨g1,0,none⟩ 0 0 (BV (ys.drop (k+1))) rfl (by rw[Hnil.out];rfl) (fun j u hj=>by rw[Hnil.out] at hj;simp[BV] at hj) (zhr _) (by unfold maxLen;omega) (by omega) (by have:=hgA.size;simp at this;omega) ?_;intro v2 wB hoB hgB))
      have R1:Own wB w.heap.size v2 (ys.take k++ys.drop (k+1)):=by
       have h:=hoB;rw[show BV []=[] from rfl,List.nil_append,Nat.zero_add] at h;exact zfe Htk.out.symm (by rw[Hnil.out];rfl) h
      have HKB:=HKA.step hgB (fun j hj=>(oL hoA j hj).1);have R4:(ys.take k++ys.drop (k+1)).length≤ys.length:=(by rw[lA,Htk.out,Hdk.out];omega);have R1':=R1.wr;generalize ys.take k++ys.drop (k+1)=zs at R1' R4;obtain⟨R2,R3,_⟩:=HKB;clear hwr1 htn1 hnn1 hoA hgA HKA HRA hoB hgB R1 HK1 HR1 HA1 hl0;go_wp2;go_roundw
      case rel=>exact⟨m-1,zs,by go_num,by omega,by omega,R1',R2,R3⟩
      case measure=>simp[intOf];omega
     ·go_wp2;have hwr1:IntKind.i64.wrap ((k:Int)+1)=(k:Int)+1:=(by rw[IntKind.wrap_i64];omega);have htn1:((k:Int)+1).toNat=k+1:=(by omega);have hnn1:(0:Int)≤(k:Int)+1:=(by omega);go_region_law (first
       | (refine zaA rfl (.tmp 47) (.tmp 50) 22 rfl w.heap.size 5 i0 (.int .u8 0) 1 1 Tryz.underlying22 hi hz0 hz1 hz2 rfl (by decide) (.slice (some ⟨w3.heap.size,0,none⟩) 0 0) 0 (BV []) rfl HA1 ⟨g1,0,none⟩ k cap (BV (ys.take k)) rfl (by rw[zbR,Htk.out,Nat.mul_one]) (HR1.head hkc3) (zhr _) (by unfold maxLen;omega) (by omega) (by simp;omega) ?_;intro v1 wA hoA hgA;have HKA:=HK1.step hgA (fun j hj=>(oL HA1 j hj).1);have HRA:=HR1.step hgA (fun e=>HZ.out (by simpa [Value.ownBlock] using e)))
       | (refine zaA rfl (.tmp 51) (.tmp 55) 22 rfl w.heap.size 5 i0 (.int .u8 0) 1 1 Tryz.underlying22 hi hz0 hz1 hz2 rfl (by decide) v1 _ _ rfl hoA ⟨g1,k+1,none⟩ (ys.length-(k+1)) (cap-(k+1)) (BV (ys.drop (k+1))) rfl (by rw[zbR,Hdk.out,Nat.mul_one]) HRA.tail (zhr _) (by unfold maxLen;omega) (by omega) (by have:=hgA.size;simp at this;omega) ?_;intro v2 wB hoB hgB))
      have R1:Own wB w.heap.size v2 (ys.take k++ys.drop (k+1)):=by
       have h:=hoB;rw[show BV []=[] from rfl,List.nil_append,Nat.zero_add] at h;exact zfe Htk.out.symm Hdk.out.symm h
      have HKB:=HKA.step hgB (fun j hj=>(oL hoA j hj).1);have R4:(ys.take k++ys.drop (k+1)).length≤ys.length:=(by rw[lA,Htk.out,Hdk.out];omega);have R1':=R1.wr;generalize ys.take k++ys.drop (k+1)=zs at R1' R4;obtain⟨R2,R3,_⟩:=HKB;clear hwr1 htn1 hnn1 hoA hgA HKA HRA hoB hgB R1 HK1 HR1 HA1;go_wp2;go_roundw
      case rel=>exact⟨m-1,zs,by go_num,by omega,by omega,R1',R2,R3⟩
      case measure=>simp[intOf];omega
    ·have e3:y=3:=(by omega);subst e3;have HK:Keep w0 w g w3:=⟨hc3,hgw3,hlt⟩;have HR:RowAt w3 g1 ys:=⟨h33,H43.out⟩;have HK1:Keep w0 w g (w3.alloc (.cells #[] 5)).drew:=HK.step (zbz (zav (zaY w3 none) _) 1) (fun k hk=>by cases hk);have HR1:RowAt (w3.alloc (.cells #[] 5)).drew g1 ys:=HR.step (zbz (zav (zaY w3 none) (.cells #[] 5)) 1) (fun e=>by cases e);have HA1:((w3.alloc (.cells #[] 5)).drew).ownsRow w3.heap.size 5 1 (.slice (some ⟨w3.heap.size,0,none⟩) 0 0) 0 (BV []):=zcB w3;have Htk:Hid ((ys.take k).length=k):=(by show _=_;rw[List.length_take];omega);have Hdk:Hid ((ys.drop k).length=ys.length-k):=List.length_drop;have hgg:g<w3.heap.size:=(by omega);have hkc:k≤cap:=(by omega);have hkc2:(k:Int)≤(ys.length:Int):=(by omega);have hkc3:k≤ys.length:=(by omega);have hkc4:¬ cap=k:=(by omega);have hbs:ys.length≤1048578:=(by omega);clear HK HR hc3 hgw3 H43;go_wp2;go_region_law (first
      | (refine zaA rfl (.tmp 59) (.tmp 62) 22 rfl w3.heap.size 5 i0 (.int .u8 0) 1 1 Tryz.underlying22 hi hz0 hz1 hz2 rfl (by decide) (.slice (some ⟨w3.heap.size,0,none⟩) 0 0) 0 (BV []) rfl HA1 ⟨g1,0,none⟩ k cap (BV (ys.take k)) rfl (by rw[zbR,Htk.out,Nat.mul_one]) (HR1.head hkc3) (zhr _) (by unfold maxLen;omega) (by omega) (by simp) ?_;intro v1 wA hoA hgA;have HKA:=HK1.step hgA (fun j hj=>by have:=(oL HA1 j hj).1;omega);have HRA:=HR1.step hgA (fun e=>by have:=(oL HA1 _ e).1;omega);have hsA:w3.heap.size≤wA.heap.size:=by (have:=hgA.size;simp at this;omega))
      | (refine zaA rfl (.tmp 63) (.tmp 70) 22 rfl w3.heap.size 5 i0 (.int .u8 0) 1 1 Tryz.underlying22 hi hz0 hz1 hz2 rfl (by decide) v1 _ _ rfl (World.ownsRow.alloc hoA4 _) ⟨w4.heap.size,0,none⟩ 1 1 [.int .u8 ((sgn[z]'hzl).toNat:Int)] rfl rfl (zex _ _ _) (by intro u hu;simp at hu;subst hu;rfl) (by unfold maxLen;omega) (by omega) (by simp;omega) ?_;intro v2 wB hoB hgB;have HKB:=(HK4.step (zav (zaY w4 none) _) (fun j hj=>by cases hj)).step hgB (fun j hj=>by have:=(oL hoA4 j hj).1;omega);have HRB:=(HR4.step (zav (zaY w4 none) _) (fun e=>by cases e)).step hgB (fun e=>by have:=(oL hoA4 _ e).1;omega);have hsB:w3.heap.size≤wB.heap.size:=by (have:=hgB.size;simp at this;omega))
      | (refine zaA rfl (.tmp 71) (.tmp 74) 22 rfl w3.heap.size 5 i0 (.int .u8 0) 1 1 Tryz.underlying22 hi hz0 hz1 hz2 rfl (by decide) v2 _ _ rfl hoB ⟨g1,k,none⟩ (ys.length-k) (cap-k) (BV (ys.drop k)) rfl (by rw[zbR,Hdk.out,Nat.mul_one]) HRB.tail (zhr _) (by unfold maxLen;omega) (by omega) hsB ?_;intro v3 wC hoC hgC)
      | (go_simp;go_wp2_with (go_at_call 54;(refine(zB w0 _ g _ HKA.1 (by omega) (by omega)).mono ?_;rintro e w4 ⟨z',rfl,hq0,hq1,hc4,hg4⟩;obtain⟨z,rfl⟩:=Int.eq_ofNat_of_zero_le hq0;have hzl:z<sgn.size:=(by omega);have HK4:=HKA.own hc4 hg4;have HR4:=HRA.step hg4 (fun e=>by have:=Option.some.inj e;omega);have hoA4:=zl hoA hg4 (fun j hj e=>by have:=(oL hoA j hj).1;have:=Option.some.inj e;omega);have hs4:w3.heap.size≤w4.heap.size:=by (have:=hg4.size;omega)))))
     have R1:Own wC w3.heap.size v3 ((ys.take k++[sgn[z]'hzl])++ys.drop k):=by
      have h:=hoC;rw[show BV []=[] from rfl,List.nil_append,Nat.zero_add] at h;exact zfe (ys:=ys.take k++[sgn[z]'hzl]) (by rw[lA,Htk.out,List.length_singleton]) Hdk.out.symm (by rw[zeE];exact h)
     have HKC:=HKB.step hgC (fun j hj=>by have:=(oL hoB j hj).1;omega);have R4:((ys.take k++[sgn[z]'hzl])++ys.drop k).length≤ys.length+1:=(by rw[lA,lA,Htk.out,Hdk.out];simp;omega);have R1':=(R1.mono hsz3).wr;generalize (ys.take k++[sgn[z]'hzl])++ys.drop k=zs at R1' R4;obtain⟨R2,R3,_⟩:=HKC;clear hoA hgA HKA HRA hoB hgB R1 HK1 HR1 HA1 hoC hgC HKB HRB hoA4 HK4 HR4 hc4 hg4;go_wp2;go_roundw
     case rel=>exact⟨m-1,zs,by go_num,by omega,by omega,R1',R2,R3⟩
     case measure=>simp[intOf];omega
   ·go_wp2;go_ret;exact⟨_,rfl,hend,hdc,hgw⟩
  ·go_wp2;go_ret;exact⟨_,rfl,hend,hdc,hgw⟩
open Go.RowKit
theorem zcY(w0 w:World)(g:Nat)(lo hi:Int)(h:DCur w0 w g)(h0:lo≤hi)(h1 : -1000000≤lo)(h2:hi≤1000000) :
 Calls Tryz.prog 44 #[.pointer (some ⟨g,0,none⟩),.int .i64 lo,.int .i64 hi] w fun e w'=>∃ x:Int,e=.returned (.int .i64 x)∧lo≤x∧x≤hi∧DCur w0 w' g∧w.grownBy w' (some g):=by
 go_enter Tryz.func44,Tryz.ntmps44
 go_wp2_with fail
 refine(zB w0 _ g _ h (by omega) (by omega)).mono ?_;rintro e w1 ⟨x,rfl,hx0,hx1,hc,hg⟩;go_wp2;go_ret;exact⟨_,rfl,by omega,by omega,hc,hg⟩
theorem zb8(w0 w:World)(g:Nat)(h:DCur w0 w g) :
 Calls Tryz.prog 86 #[.pointer (some ⟨g,0,none⟩)] w fun e w'=>TabD w0 w g e w':=by
 have hgl:=h.lt;have hz:=zbL w ⟨#[]⟩ ⟨#[]⟩ (.slice none 0 0) (.slice none 0 0);have hc1:=h.alloc (.cells #[.string ⟨#[]⟩,.string ⟨#[]⟩,.slice none 0 0,.slice none 0 0] 56);have hg1:=zav (zaY w (some g)) (.cells #[.string ⟨#[]⟩,.string ⟨#[]⟩,.slice none 0 0,.slice none 0 0] 56);go_enter Tryz.func86,Tryz.ntmps86
 go_wp2_with fail
 refine(zeb _ _ g 1 20 hc1 (by omega) (by omega) (by omega)).mono ?_;rintro e w2 ⟨vL,es,rfl,ho2,hl2,hsm,hc2,hg2⟩;have hz2:=hz.block (hg2.block _ hz.lt (by simp;omega));have hr2:=ho2.rd;have hw2:=zq hg1 hg2;have HS:Hid (∀ x∈es,Small x):=hsm;clear hsm hz hc1 hg1 ho2 hg2 h;obtain⟨aL,cL,hvL,hL1,hL2,_⟩:=id hr2;subst hvL;go_upto_if 9 with fail
 go_cut [3] (fun v W=>∃ fs:List Ent,RdE W v fs∧0<fs.length∧fs.length≤20∧Hid (∀ x∈fs,Small x)∧BoxT W w.heap.size ⟨#[]⟩ ⟨#[]⟩ (.slice none 0 0) (.slice none 0 0)∧DCur w0 W g∧w.grownBy W (some g))
 case first =>
  by_cases hn:es.length=0
  ·have hd:decide ((es.length:Int)=0)=true:=(by simp[hn]);have e0:EntAt (w2.alloc (.cells #[.string ⟨#[113]⟩,.string ⟨#[]⟩,.int .i64 2,.bool false] 40)) w2.heap.size 0 ⟨⟨#[113]⟩,⟨#[]⟩,2,false⟩:=⟨by simp[World.cell?_alloc_at],by simp[World.cell?_alloc_at],by simp[World.cell?_alloc_at],by simp[World.cell?_alloc_at]⟩;have hzA:=hz2.below (ze w2 (.cells #[.string ⟨#[113]⟩,.string ⟨#[]⟩,.int .i64 2,.bool false] 40));have hcA:=hc2.alloc (.cells #[.string ⟨#[113]⟩,.string ⟨#[]⟩,.int .i64 2,.bool false] 40);have hgA:=zav hw2 (.cells #[.string ⟨#[113]⟩,.string ⟨#[]⟩,.int .i64 2,.bool false] 40);go_wp2;go_meet
   case rel =>
    refine⟨[⟨⟨#[113]⟩,⟨#[]⟩,2,false⟩],⟨_,_,rfl,nR _,by decide,(fun e=>by cases e),.inr ⟨_,0,rfl,fun i hi=>?_⟩⟩,by decide,by decide,?_,hzA,hcA,hgA⟩
    ·obtain rfl:i=0:=(by simp at hi;omega);exact e0
    ·show ∀ x∈_,_;intro x hx;simp at hx;subst hx;exact⟨by decide,by decide,by decide,by decide⟩
  ·have hd:decide ((es.length:Int)=0)=false:=(by simp;intro e;simp[e] at hn);go_wp2;go_meet
   case rel=>exact⟨es,hr2,by omega,hl2,HS,hz2,hc2,hw2⟩
 case rest =>
  obtain⟨fs,hr3,hp3,hl3,HS3,hz3,hc3,hw3⟩:=hcut;clear hr2 HS hz2 hc2 hw2;have HPK:Hid (∀ e∈fs,PkE e):=fun e he=>(HS3.out e he).pk
  go_wp2_with fail
  refine(zct _ fs _ hr3 HPK.out (by omega) hp3).mono ?_;rintro e w4 ⟨vb,vk,rfl,hi4,hk4,hb4⟩;have hz4:=hz3.below hb4;have hc4:=hc3.below hb4;have hw4:=zbg hw3 hb4;have hwl:w.heap.size<wc.heap.size:=hz3.lt;have HB0:Hid (0<(zC fs).bits.length):=zpg hp3;have HB1:Hid ((zC fs).bits.length≤40):=by have:=zjA fs;show (bitsL fs).length≤40;omega
  have HK0:Hid (0<(zC fs).blocks.length):=zpf hp3;have HK1:Hid (∀ s∈(zC fs).blocks,s.size≤20000):=zmO HPK.out;generalize zC fs=T at hi4 hk4 HB0 HB1 HK0 HK1 ⊢;clear hr3 HS3 hz3 hc3 hw3 hb4 HPK hp3 hl3;generalize wc.heap.size=B at hi4 hk4 hwl;rcases id hi4.2 with ⟨_,h0⟩ | ⟨gb,cb,_,rfl,hgb,_⟩
  ·have:=HB0.out;omega
  rcases id hk4.2 with ⟨_,h0⟩ | ⟨gk,ck,_,rfl,hgk,_,hnk,hck,_⟩
  ·have:=HK0.out;omega
  have hT5:=zbL w4 T.first T.last (.slice (some ⟨gb,0,none⟩) T.bits.length cb) (.slice (some ⟨gk,0,none⟩) T.blocks.length ck);have bl:=ze w4 (.cells #[.string T.first,.string T.last,.slice (some ⟨gb,0,none⟩) T.bits.length cb,.slice (some ⟨gk,0,none⟩) T.blocks.length ck] 56);have hz5:=hz4.below bl;have hc5:=hc4.below bl;have hw5:=zbg hw4 bl;have hi5:=hi4.below bl;have hk5:=hk4.below bl;have hwl4:=hz4.lt;have hgk4:gk<w4.heap.size:=(oL hk4 gk rfl).2;clear bl hz4 hc4 hw4 hi4 hk4;go_wp2_with fail
  generalize w4.alloc (.cells #[.string T.first,.string T.last,.slice (some ⟨gb,0,none⟩) T.bits.length cb,.slice (some ⟨gk,0,none⟩) T.blocks.length ck] 56)=W5 at hT5 hz5 hc5 hw5 hi5 hk5 ⊢;refine(za6 _ _ g 12 hc5 (by omega) (by omega)).mono ?_;rintro e w6 ⟨b,rfl,hc6,hg6⟩;have hz6:=hz5.block (hg6.block _ hz5.lt (by simp;omega));have hT6:=hT5.block (hg6.block _ hT5.lt (by simp;omega));have hi6:=zhC hi5 hg6 (by omega);have hk6:=zhE hk5 hg6 (by omega);have hw6:=zq hw5 hg6;clear hz5 hT5 hc5 hi5 hk5 hw5 hg6;go_upto_if 15 with fail
  go_cut [] (fun W=>∃ (f l:ByteArray) (ns:List Int) (ss:List ByteArray) (ab ak:Option Addr) (cb ck:Nat),BoxT W w4.heap.size f l (.slice ab ns.length cb) (.slice ak ss.length ck)∧OwnI W B (.slice ab ns.length cb) ns∧YS W B (.slice ak ss.length ck) ss∧Hid (∀ s∈ss,s.size≤1000000)∧BoxT W w.heap.size ⟨#[]⟩ ⟨#[]⟩ (.slice none 0 0) (.slice none 0 0)∧DCur w0 W g∧w.grownBy W (some g))
  case first =>
   cases b with
   | false =>
    go_wp2;go_meet
    case rel=>exact⟨_,_,_,_,_,_,_,_,hT6,hi6,hk6.young,fun s hs=>nT (HK1.out s hs) (by omega),hz6,hc6,hw6⟩
   | true =>
    go_wp2_with fail
    refine(zB _ _ g 4 hc6 (by omega) (by omega)).mono ?_;rintro e w7 ⟨x,rfl,hx0,hx1,hc7,hg7⟩;have hz7:=hz6.block (hg7.block _ hz6.lt (by simp;omega));have hT7:=hT6.block (hg7.block _ hT6.lt (by simp;omega));have hi7:=zhC hi6 hg7 (by omega);have hk7:=zhE hk6 hg7 (by omega);have hw7:=zq hw6 hg7;clear hz6 hT6 hc6 hi6 hk6 hw6 hg7;obtain rfl | rfl | rfl | rfl:x=0∨x=1∨x=2∨x=3:=by omega
    ·skip
     go_wp2_with fail
     refine(zca _ _ g hc7).mono ?_;rintro e w8 ⟨key,rfl,hks,hc8,hg8⟩;have hz8:=hz7.block (hg8.block _ hz7.lt (by simp;omega));have hT8:=hT7.block (hg8.block _ hT7.lt (by simp;omega));have hi8:=zhC hi7 hg8 (by omega);have hk8:=zhE hk7 hg8 (by omega);have hw8:=zq hw7 hg8;clear hz7 hT7 hc7 hi7 hk7 hw7 hg8;obtain⟨c0,c1,c2,c3,f0,f1,f2,f3⟩:=hT8.facts;have nb:=zO hT8 hi8 (by decide);have nk:=zO hT8 hk8 (by decide);go_wp2;go_meet
     case rel=>exact⟨_,_,_,_,_,_,_,_,zoI hT8,zi hi8 nb,OwnS.young (zi hk8 nk),fun s hs=>nT (HK1.out s hs) (by omega),zbD hz8 (by omega),hc8.set (by omega),zaX hw8 (by omega)⟩
    ·skip
     go_wp2_with fail
     refine brg (S:=fun _=>True) trivial (fun hH=>?_);have qT:BoxT w7.drew _ _ _ _ _:=hT7;have qz:BoxT w7.drew _ _ _ _ _:=hz7;have qi:OwnI w7.drew _ _ _:=hi7;have qk:OwnS w7.drew _ _ _:=hk7;have qc:DCur w0 w7.drew g:=hc7.drewN 1;have qw:w.grownBy w7.drew (some g):=zbz hw7 1;clear hT7 hz7 hi7 hk7 hc7 hw7 hH;revert qT qz qi qk qc qw;generalize w7.drew=W0;intro qT qz qi qk qc qw;have hH:True:=trivial;refine kA 0 25 hH ?_;refine kA 2 27 hH ?_;obtain⟨c0,c1,c2,c3,f0,f1,f2,f3⟩:=qT.facts;refine wpAnyH_ready (rs:=[1,3]) (by kernel_rfl) (by simp) ?_;refine arc (fun K hK=>?_) ?_
     ·go_simp;refine hK.out _ _ trivial (fun hH=>?_);clear hK K;try simp only[Act.put,sA,sZ,sS]
      refine rdy 3 (fun K hK=>?_);go_simp;refine(zcY _ _ g (-1) 257 qc (by omega) (by omega) (by omega)).mono ?_;rintro e w8 ⟨y,rfl,hy0,hy1,hc8,hg8⟩;have hz8:=qz.block (hg8.block _ qz.lt (by simp;omega));have hT8:=qT.block (hg8.block _ qT.lt (by simp;omega));have hi8:=zhC qi hg8 (by omega);have hk8:=zhE qk hg8 (by omega);have hw8:=zq qw hg8;refine hK.out _ _ trivial (fun hH=>?_);clear hK K;try simp only[Act.put,sA,sZ,sS]
      clear qT qz qi qk qc qw hg8 c0 c1 c2 c3 f0 f1 f2 f3;refine rdy 4 (fun K hK=>?_);go_simp;refine(zeJ gb cb T.bits y B w8 hi8 (by have:=HB1.out;omega) (by have:=hT8.lt;omega)).mono ?_;rintro e w9 ⟨u9,rfl,hi9,hb9⟩;have hz9:=hz8.below hb9;have hT9:=hT8.below hb9;have hk9:=hk8.below hb9;have hc9:=hc8.below hb9;have hw9:=zbg hw8 hb9;obtain⟨a9,k9,rfl,_⟩:=id hi9.rd;clear hz8 hT8 hi8 hk8 hc8 hw8 hb9;refine hK.out _ _ trivial (fun hH=>?_);clear hK K;try simp only[Act.put,sA,sZ,sS]
      refine kA 5 30 hH ?_;obtain⟨c0,c1,c2,c3,f0,f1,f2,f3⟩:=hT9.facts;have nb:=zO hT9 hi9 (by decide);have nk:=zO hT9 hk9 (by decide);refine rdy 6 (fun K hK=>?_);go_simp;refine hK.out _ _ trivial (fun hH=>?_);clear hK K;try simp only[Act.put,sA,sZ,sS]
      refine dne ?_;go_wp2;go_meet
      case rel=>exact⟨_,_,_,_,_,_,_,_,zjf hT9,zi hi9 nb,OwnS.young (zi hk9 nk),fun s hs=>nT (HK1.out s hs) (by omega),zbD hz9 (by omega),hc9.set (by omega),zaX hw9 (by omega)⟩
     ·refine AllReadyH.cons rfl (fun K hK=>?_) AllReadyH.nil;go_simp;refine(zcY _ _ g (-1) 257 qc (by omega) (by omega) (by omega)).mono ?_;rintro e w8 ⟨y,rfl,hy0,hy1,hc8,hg8⟩;have hz8:=qz.block (hg8.block _ qz.lt (by simp;omega));have hT8:=qT.block (hg8.block _ qT.lt (by simp;omega));have hi8:=zhC qi hg8 (by omega);have hk8:=zhE qk hg8 (by omega);have hw8:=zq qw hg8;refine hK.out _ _ trivial (fun hH=>?_);clear hK K;try simp only[Act.put,sA,sZ,sS]
      obtain⟨_,_,d2,_⟩:=hT8.facts;refine rdy 1 (fun K hK=>?_);go_simp;refine hK.out _ _ trivial (fun hH=>?_);clear hK K d2;try simp only[Act.put,sA,sZ,sS]
      clear qT qz qi qk qc qw hg8 c0 c1 c2 c3 f0 f1 f2 f3;refine rdy 4 (fun K hK=>?_);go_simp;refine(zeJ gb cb T.bits y B w8 hi8 (by have:=HB1.out;omega) (by have:=hT8.lt;omega)).mono ?_;rintro e w9 ⟨u9,rfl,hi9,hb9⟩;have hz9:=hz8.below hb9;have hT9:=hT8.below hb9;have hk9:=hk8.below hb9;have hc9:=hc8.below hb9;have hw9:=zbg hw8 hb9;obtain⟨a9,k9,rfl,_⟩:=id hi9.rd;clear hz8 hT8 hi8 hk8 hc8 hw8 hb9;refine hK.out _ _ trivial (fun hH=>?_);clear hK K;try simp only[Act.put,sA,sZ,sS]
      refine kA 5 30 hH ?_;obtain⟨c0,c1,c2,c3,f0,f1,f2,f3⟩:=hT9.facts;have nb:=zO hT9 hi9 (by decide);have nk:=zO hT9 hk9 (by decide);refine rdy 6 (fun K hK=>?_);go_simp;refine hK.out _ _ trivial (fun hH=>?_);clear hK K;try simp only[Act.put,sA,sZ,sS]
      refine dne ?_;go_wp2;go_meet
      case rel=>exact⟨_,_,_,_,_,_,_,_,zjf hT9,zi hi9 nb,OwnS.young (zi hk9 nk),fun s hs=>nT (HK1.out s hs) (by omega),zbD hz9 (by omega),hc9.set (by omega),zaX hw9 (by omega)⟩
    ·skip
     have hk0:=HK0.out;go_wp2_with fail
     obtain⟨c0,c1,c2,c3,f0,f1,f2,f3⟩:=hT7.facts;refine brg (S:=fun W=>W.cell? ⟨w4.heap.size,3,none⟩=some (.slice (some ⟨gk,0,none⟩) T.blocks.length ck)) c3 (fun hH=>?_);clear c0 c1 c2 c3 f0 f1 f2 f3;have qT:BoxT w7.drew _ _ _ _ _:=hT7;have qz:BoxT w7.drew _ _ _ _ _:=hz7;have qi:OwnI w7.drew _ _ _:=hi7;have qk:OwnS w7.drew _ _ _:=hk7;have qc:DCur w0 w7.drew g:=hc7.drewN 1;have qw:w.grownBy w7.drew (some g):=zbz hw7 1;clear hT7 hz7 hi7 hk7 hc7 hw7;revert hH qT qz qi qk qc qw;generalize w7.drew=W0;intro hH qT qz qi qk qc qw;refine kA 0 33 hH ?_;refine kA 1 34 hH ?_;refine kA 2 35 hH ?_;refine kA 3 36 hH ?_;refine kA 4 37 hH ?_;refine kA 5 38 hH ?_;have hcell:=(World.ownsRow.cellAt qk 0 (by omega)).trans (zjw _ 0 hk0);have hs0:(T.blocks[0]).size≤20000:=HK1.out _ (List.getElem_mem hk0);generalize T.blocks[0]=s0 at hcell hs0;refine rdy 6 (fun K hK=>?_);go_simp;refine hK.out _ _ hH (fun hH=>?_);clear hK K;try simp only[Act.put,sA,sZ,sS]
     clear hcell;refine rdy 7 (fun K hK=>?_);go_simp;refine(zni _ _ g s0 ⟨#[0,1,8,97]⟩ qc (by omega) (by decide) (by decide)).mono ?_;rintro e w8 ⟨s8,rfl,hs8,hc8,hg8⟩;have hz8:=qz.block (hg8.block _ qz.lt (by simp;omega));have hT8:=qT.block (hg8.block _ qT.lt (by simp;omega));have hi8:=zhC qi hg8 (by omega);have hk8:=zhE qk hg8 (by omega);have hw8:=zq qw hg8;have hS8:=hT8.facts.2.2.2.1;clear qT qz qi qk qc qw hg8;refine hK.out _ _ hS8 (fun hA=>?_);clear hK K;try simp only[Act.put,sA,sZ,sS]
     refine kA 8 41 hA ?_;have hcell:=(World.ownsRow.cellAt hk8 0 (by omega)).trans (zjw _ 0 hk0);have hfr:=World.ownsRow.frozenAt hk8 0;generalize T.blocks[0]=s1 at hcell;have nk:=zO hT8 hk8 (by decide);have nz:=zO hz8 hk8 (by decide);have hgT:w4.heap.size≠gk:=nk gk rfl;have hgz:w.heap.size≠gk:=nz gk rfl;have hni:∀ k,(Value.slice (some ⟨gb,0,none⟩) T.bits.length cb).ownBlock=some k→gk≠k:=fun k hk e=>zh hk8 hi8 (by decide) gk rfl (hk.trans (by rw[e]))
     have hT9:=zbD (j:=0) (u:=.string s8) hT8 hgT;have hS9:=hT9.facts.2.2.2.1;refine rdy 9 (fun K hK=>?_);go_simp;refine hK.out _ _ hS9 (fun hB=>?_);clear hK K;try simp only[Act.put,sA,sZ,sS]
     refine dne ?_;have hl9:(T.blocks.set 0 s8).length=T.blocks.length:=List.length_set;go_wp2;go_meet
     case rel=>exact⟨_,_,_,T.blocks.set 0 s8,_,_,_,_,by rw[hl9];exact hT9,zi hi8 hni,OwnS.young (zkM hk8 0 s8),znJ (fun s hs=>nT (HK1.out s hs) (by omega)) (by omega),zbD hz8 hgz,hc8.set (by omega),zaX hw8 (by omega)⟩
    ·skip
     obtain⟨c0,c1,c2,c3,f0,f1,f2,f3⟩:=hT7.facts;have nb:=zO hT7 hi7 (by decide);have nk:=zO hT7 hk7 (by decide);have hk0:=HK0.out;unfold maxLen at hck;by_cases hc1:ck=1
     ·subst hc1;have hl1:T.blocks.length=1:=(by omega);go_wp2;go_meet
      case rel=>exact⟨_,_,_,[],_,_,_,0,zcT hT7,zi hi7 nb,⟨_,_,rfl,nR _,Nat.zero_le _,.inl rfl⟩,(fun s hs=>by cases hs),zbD hz7 (by omega),hc7.set (by omega),zaX hw7 (by omega)⟩
     ·go_wp2;go_meet
      case rel =>
       rw[show T.blocks.length-1=(T.blocks.drop 1).length by simp];exact⟨_,_,_,_,_,_,_,_,zcT hT7,zi hi7 nb,YS.tail2 (OwnS.young (zi hk7 nk)) hk0 (by omega),fun s hs=>nT (HK1.out s (List.mem_of_mem_drop hs)) (by omega),zbD hz7 (by omega),hc7.set (by omega),zaX hw7 (by omega)⟩
  case rest =>
   obtain⟨f,l,ns,ss,ab,ak,cb',ck',hT7,hi7,hk7,HS7,hz7,hc7,hw7⟩:=hcut;clear hT6 hi6 hk6 hz6 hc6 hw6;obtain⟨c0,c1,c2,c3,_⟩:=hT7.facts;obtain⟨z0,z1,z2,z3,f0,f1,f2,f3⟩:=hz7.facts;have z8:=zjr (f':=f) (l':=l) (vb':=.slice ab ns.length cb') (vk':=.slice ak ss.length ck') hz7;obtain⟨x0,x1,x2,x3,_⟩:=z8.facts;have nb:=zO hz7 hi7 (by decide);clear hT7;go_wp2;exact bodyPost_ret (v:=.agg #[.string f,.string l,.slice ab ns.length cb',.slice ak ss.length ck']) (by simp[results,Tryz.results86,go_sem,x0,x1,x2,x3]) rfl ⟨⟨f,l,ns,ss⟩,_,_,rfl,OwnI.mono (zi (zi (zi (zi hi7 nb) nb) nb) nb) (by omega),((((hk7.set hwl).set hwl).set hwl).set hwl).mono (by omega),HS7.out,(((hc7.set hgl).set hgl).set hgl).set hgl,zaX (zaX (zaX (zaX hw7 (nR _)) (nR _)) (nR _)) (nR _)⟩
end Go.Proofs.YtjlnchhgkfnldaaGreat
