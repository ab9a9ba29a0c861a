/- The contracts of errors.As at the type of the program's own error. The contract of the program's free: the sector for the next slot. -/
import Derived.Test.YtpidmmfjmbinkaaGreatDoorG19
import Derived.Test.YtpidmmfjmbinkaaGreatDoorSltAt
namespace Go.Proofs.YtpidmmfjmbinkaaGreatDoor
open Go.RowKit Go.Extern.Stop Go.Stop Go.Extern
set_option maxHeartbeats 4000000 in
theorem as_nil (t : Value) (w : World) : Calls Tryz.prog 73 #[.nilIface, t] w fun e w' => e = .returned (.bool false) ∧ w' = w := by
  go_enter Tryz.func73, Tryz.ntmps73
  go_wp2
  go_ret
  exact ⟨rfl, rfl⟩
theorem Tryz.valueOfP (t : Addr) (w : World) : (ReflectliteValue.unpack (.iface 108 (.pointer (some t)))).run Tryz.prog w
    = .ok (.agg #[.pointer (some ⟨9, 108, none⟩), .pointer (some ⟨w.heap.size, 0, none⟩), .int .u64 150]) (w.alloc (.cells #[.pointer (some t)] 108)) := by kernel_rfl
theorem Tryz.typeP (a : Addr) (w : World) : (ReflectliteValue.methodAny (ReflectliteValue.valueError "reflectlite.Value.Type" 0) (fun t _ _ _ => ReflectliteType.toType t) #[.agg #[.pointer (some ⟨9, 108, none⟩), .pointer (some a), .int .u64 150]]).run Tryz.prog w
    = .ok (.iface 123 (.agg #[.pointer (some ⟨9, 108, none⟩)])) w := by kernel_rfl
theorem Tryz.methodKind (h : Value) (w : World) : (Go.method 305 123 (.agg #[h]) "Kind").run Tryz.prog w = .ok (131, h) w := by kernel_rfl
theorem Tryz.kindP (w : World) : ((ReflectliteType.abiMethod fun t => (fun a : Nat => Value.int IntKind.u8 (a : Int)) <$> Rtype.kind t) #[.pointer (some ⟨9, 108, none⟩)]).run Tryz.prog w = .ok (.int .u8 22) w := by kernel_rfl
theorem Tryz.kindS (w : World) : ((ReflectliteType.abiMethod fun t => (fun a : Nat => Value.int IntKind.u8 (a : Int)) <$> Rtype.kind t) #[.pointer (some ⟨9, 106, none⟩)]).run Tryz.prog w = .ok (.int .u8 25) w := by kernel_rfl
theorem Tryz.partsP (a : Addr) (w : World) : (ReflectliteValue.parts (.agg #[.pointer (some ⟨9, 108, none⟩), .pointer (some a), .int .u64 150])).run Tryz.prog w = .ok (some (108, a, 150)) w := by kernel_rfl
theorem Tryz.isNilP (a p : Addr) (W : World) (ha : W.cell? a = some (.pointer (some p))) :
    (ReflectliteValue.method (ReflectliteValue.valueError "reflectlite.Value.IsNil" 0) ReflectliteValue.isNil #[.agg #[.pointer (some ⟨9, 108, none⟩), .pointer (some a), .int .u64 150]]).run Tryz.prog W = .ok (.bool false) W := by
  show Sem.run Tryz.prog (ReflectliteValue.parts (.agg #[.pointer (some ⟨9, 108, none⟩), .pointer (some a), .int .u64 150]) >>= _) W = _
  simp only [Sem.run_bind, Tryz.partsP, Result.andThen]
  simp [ReflectliteValue.isNil, loadVar, isAgg, underlying, Tryz.underlying108, ha, Result.andThen]
theorem Tryz.methodElem (h : Value) (w : World) : (Go.method 305 123 (.agg #[h]) "Elem").run Tryz.prog w = .ok (139, .agg #[h]) w := by kernel_rfl
theorem Tryz.methodImplements (h : Value) (w : World) : (Go.method 305 123 (.agg #[h]) "Implements").run Tryz.prog w = .ok (140, .agg #[h]) w := by kernel_rfl
theorem Tryz.methodAssignableTo (h : Value) (w : World) : (Go.method 305 123 (.agg #[h]) "AssignableTo").run Tryz.prog w = .ok (137, .agg #[h]) w := by kernel_rfl
theorem Tryz.elemP (w : World) : (ReflectliteType.method ReflectliteType.elem #[.agg #[.pointer (some ⟨9, 108, none⟩)]]).run Tryz.prog w = .ok (.iface 123 (.agg #[.pointer (some ⟨9, 106, none⟩)])) w := by kernel_rfl
theorem Tryz.implementsS (w : World) : (ReflectliteType.relation "Implements" ReflectliteType.implements_ #[.agg #[.pointer (some ⟨9, 106, none⟩)], .iface 123 (.agg #[.pointer (some ⟨9, 59, none⟩)])]).run Tryz.prog w = .ok (.bool true) w := by kernel_rfl
theorem Tryz.typeOfS (v : Value) (w : World) : (ReflectliteType.typeOf #[.iface 106 v]).run Tryz.prog w = .ok (.iface 123 (.agg #[.pointer (some ⟨9, 106, none⟩)])) w := by kernel_rfl
theorem Tryz.assignableS (w : World) : (ReflectliteType.relation "AssignableTo" ReflectliteType.assignableTo #[.agg #[.pointer (some ⟨9, 106, none⟩)], .iface 123 (.agg #[.pointer (some ⟨9, 106, none⟩)])]).run Tryz.prog w = .ok (.bool true) w := by kernel_rfl
theorem Tryz.valueOfS (p : Int) (a : Addr) (w : World) : (ReflectliteValue.unpack (secE p a)).run Tryz.prog w
    = .ok (.agg #[.pointer (some ⟨9, 106, none⟩), .pointer (some ⟨w.heap.size, 0, none⟩), .int .u64 153]) (w.alloc (.cells #[.int .i64 p, .iface 174 (.pointer (some a))] 106)) := by kernel_rfl
theorem Tryz.elemOfP (w : World) : (Rtype.elem? 108).run Tryz.prog w = .ok (some 106) w := by kernel_rfl
theorem Tryz.mkS (p : Addr) (w : World) : (ReflectliteValue.mk 106 p ReflectliteValue.flagAddr).run Tryz.prog w = .ok (.agg #[.pointer (some ⟨9, 106, none⟩), .pointer (some p), .int .u64 409]) w := by kernel_rfl
theorem Tryz.elemVP (a p : Addr) (W : World) (ha : W.cell? a = some (.pointer (some p))) :
    (ReflectliteValue.method (ReflectliteValue.valueError "reflectlite.Value.Elem" 0) ReflectliteValue.elem #[.agg #[.pointer (some ⟨9, 108, none⟩), .pointer (some a), .int .u64 150]]).run Tryz.prog W
      = .ok (.agg #[.pointer (some ⟨9, 106, none⟩), .pointer (some p), .int .u64 409]) W := by
  show Sem.run Tryz.prog (ReflectliteValue.parts (.agg #[.pointer (some ⟨9, 108, none⟩), .pointer (some a), .int .u64 150]) >>= _) W = _
  simp only [Sem.run_bind, Tryz.partsP, Result.andThen]
  simp [ReflectliteValue.elem, loadVar, isAgg, underlying, Tryz.underlying108, ha, Result.andThen, Tryz.elemOfP, Tryz.mkS]
theorem Tryz.partsSa (a : Addr) (w : World) : (ReflectliteValue.parts (.agg #[.pointer (some ⟨9, 106, none⟩), .pointer (some a), .int .u64 409])).run Tryz.prog w = .ok (some (106, a, 409)) w := by kernel_rfl
theorem Tryz.partsS (a : Addr) (w : World) : (ReflectliteValue.parts (.agg #[.pointer (some ⟨9, 106, none⟩), .pointer (some a), .int .u64 153])).run Tryz.prog w = .ok (some (106, a, 153)) w := by kernel_rfl
theorem Tryz.directS (w : World) : (Rtype.directlyAssignable 106 106).run Tryz.prog w = .ok true w := by kernel_rfl
theorem Tryz.setS (t b : Nat) (p : Int) (a : Addr) (o0 o1 : Value) (W : World) (hb0 : W.cell? ⟨b, 0, none⟩ = some (.int .i64 p)) (hb1 : W.cell? ⟨b, 1, none⟩ = some (.iface 174 (.pointer (some a)))) (ht0 : W.cell? ⟨t, 0, none⟩ = some o0) (ht1 : W.cell? ⟨t, 1, none⟩ = some o1) (hf0 : W.frozen? ⟨t, 0, none⟩ = false) (hf1 : W.frozen? ⟨t, 1, none⟩ = false) :
    (ReflectliteValue.set #[.agg #[.pointer (some ⟨9, 106, none⟩), .pointer (some ⟨t, 0, none⟩), .int .u64 409], .agg #[.pointer (some ⟨9, 106, none⟩), .pointer (some ⟨b, 0, none⟩), .int .u64 153]]).run Tryz.prog W
      = .ok (.tuple #[]) ((W.setCell ⟨t, 0, none⟩ (.int .i64 p)).setCell ⟨t, 1, none⟩ (.iface 174 (.pointer (some a)))) := by
  show Sem.run Tryz.prog (ReflectliteValue.parts (.agg #[.pointer (some ⟨9, 106, none⟩), .pointer (some ⟨t, 0, none⟩), .int .u64 409]) >>= fun p => ReflectliteValue.parts (.agg #[.pointer (some ⟨9, 106, none⟩), .pointer (some ⟨b, 0, none⟩), .int .u64 153]) >>= _) W = _
  simp only [Sem.run_bind, Tryz.partsSa, Tryz.partsS, Result.andThen]
  have hl := run_loadCells_list (P := Tryz.prog) (w := W) ⟨b, 0, none⟩ [.int .i64 p, .iface 174 (.pointer (some a))] (fun j v hj => by
    match j, hj with
    | 0, hj => simp at hj; subst hj; simpa [Addr.add] using hb0
    | 1, hj => simp at hj; subst hj; simpa [Addr.add] using hb1
    | k + 2, hj => simp at hj)
  simp [ReflectliteValue.flagAddr, loadVar, isAgg, underlying, Tryz.underlying106, Result.andThen, Tryz.directS, storeVar, Value.cells, storeCells, Addr.add]
  have hl2 : (loadCells ⟨b, 0, none⟩ 2).run Tryz.prog W = .ok #[.int .i64 p, .iface 174 (.pointer (some a))] W := hl
  rw [hl2]
  simp [storeCells, Addr.add]
  rw [run_store Tryz.prog W _ _ _ rfl, ht0]
  simp only [hf0, Bool.false_eq_true, if_false, Result.andThen]
  rw [run_store Tryz.prog _ _ _ _ rfl, World.cell?_setCell_other _ _ _ _ (by simp), ht1]
  simp [hf1]
set_option maxHeartbeats 8000000 in
set_option maxRecDepth 100000 in
theorem as_sec (p : Int) (a : Addr) (t : Nat) (o0 o1 : Value) (w : World) (hg : w.cell? ⟨2, 0, none⟩ = some (.iface 123 (.agg #[.pointer (some ⟨9, 59, none⟩)]))) (ht0 : w.cell? ⟨t, 0, none⟩ = some o0) (ht1 : w.cell? ⟨t, 1, none⟩ = some o1) (hf0 : w.frozen? ⟨t, 0, none⟩ = false) (hf1 : w.frozen? ⟨t, 1, none⟩ = false) :
    Calls Tryz.prog 73 #[secE p a, .iface 108 (.pointer (some ⟨t, 0, none⟩))] w fun ev w' => ev = .returned (.bool true) ∧ w' = (((((w.alloc (.cells #[.pointer (some ⟨t, 0, none⟩)] 108)).alloc (.cells #[.pointer (some ⟨9, 108, none⟩), .pointer (some ⟨w.heap.size, 0, none⟩), .int .u64 150] 136)).alloc (.cells #[.pointer (some ⟨9, 108, none⟩), .pointer (some ⟨w.heap.size, 0, none⟩), .int .u64 150] 136)).alloc (.cells #[.int .i64 p, .iface 174 (.pointer (some a))] 106)).setCell ⟨t, 0, none⟩ (.int .i64 p)).setCell ⟨t, 1, none⟩ (.iface 174 (.pointer (some a))) := by
  have h6 := @run_callFunc_extern Tryz.prog 85 _ (fun args => ReflectliteValue.unpack (args.getD 0 (.tuple #[]))) Tryz.func85 (by kernel_rfl) (by kernel_rfl) (by kernel_rfl) (by kernel_rfl)
  have h7 := @run_callFunc_extern Tryz.prog 86 _ (ReflectliteValue.methodAny (ReflectliteValue.valueError "reflectlite.Value.Type" 0) (fun t _ _ _ => ReflectliteType.toType t)) Tryz.func86 (by kernel_rfl) (by kernel_rfl) (by kernel_rfl) (by kernel_rfl)
  have h8 := @run_callFunc_extern Tryz.prog 87 _ (ReflectliteValue.method (ReflectliteValue.valueError "reflectlite.Value.IsNil" 0) ReflectliteValue.isNil) Tryz.func87 (by kernel_rfl) (by kernel_rfl) (by kernel_rfl) (by kernel_rfl)
  have h27 := @run_callFunc_extern Tryz.prog 131 _ (ReflectliteType.abiMethod fun t => do pure (.int .u8 (← Rtype.kind t))) Tryz.func131 (by kernel_rfl) (by kernel_rfl) (by kernel_rfl) (by kernel_rfl)
  have h37 := @run_callFunc_extern Tryz.prog 139 _ (ReflectliteType.method ReflectliteType.elem) Tryz.func139 (by kernel_rfl) (by kernel_rfl) (by kernel_rfl) (by kernel_rfl)
  have h38 := @run_callFunc_extern Tryz.prog 140 _ (ReflectliteType.relation "Implements" ReflectliteType.implements_) Tryz.func140 (by kernel_rfl) (by kernel_rfl) (by kernel_rfl) (by kernel_rfl)
  have h10 := @run_callFunc_extern Tryz.prog 65 _ ReflectliteType.typeOf Tryz.func65 (by kernel_rfl) (by kernel_rfl) (by kernel_rfl) (by kernel_rfl)
  have h35 := @run_callFunc_extern Tryz.prog 137 _ (ReflectliteType.relation "AssignableTo" ReflectliteType.assignableTo) Tryz.func137 (by kernel_rfl) (by kernel_rfl) (by kernel_rfl) (by kernel_rfl)
  have h11 := @run_callFunc_extern Tryz.prog 101 _ (ReflectliteValue.method (ReflectliteValue.valueError "reflectlite.Value.Elem" 0) ReflectliteValue.elem) Tryz.func101 (by kernel_rfl) (by kernel_rfl) (by kernel_rfl) (by kernel_rfl)
  have h12 := @run_callFunc_extern Tryz.prog 102 _ ReflectliteValue.set Tryz.func102 (by kernel_rfl) (by kernel_rfl) (by kernel_rfl) (by kernel_rfl)
  have tO := Tryz.typeOfS
  have mA := Tryz.methodAssignableTo
  have aS := Tryz.assignableS
  have vS := Tryz.valueOfS
  have f6 := Tryz.valueOfP
  have f7 := Tryz.typeP
  have mK := Tryz.methodKind
  have mE := Tryz.methodElem
  have mI := Tryz.methodImplements
  have kP := Tryz.kindP
  have kS := Tryz.kindS
  have eP := Tryz.elemP
  have iS := Tryz.implementsS
  have n8 := Tryz.isNilP ⟨w.heap.size, 0, none⟩ ⟨t, 0, none⟩ ((w.alloc (.cells #[.pointer (some ⟨t, 0, none⟩)] 108)).alloc (.cells #[.pointer (some ⟨9, 108, none⟩), .pointer (some ⟨w.heap.size, 0, none⟩), .int .u64 150] 136)) (by simp)
  have hlt : (2 : Nat) < w.heap.size := World.block_lt_of_cell? w _ hg
  have hg2 : ((w.alloc (.cells #[.pointer (some ⟨t, 0, none⟩)] 108)).alloc (.cells #[.pointer (some ⟨9, 108, none⟩), .pointer (some ⟨w.heap.size, 0, none⟩), .int .u64 150] 136)).cell? ⟨2, 0, none⟩ = some (.iface 123 (.agg #[.pointer (some ⟨9, 59, none⟩)])) := by
    rw [World.cell?_alloc_lt _ _ ⟨2, 0, none⟩ (by simp; omega), World.cell?_alloc_lt _ _ ⟨2, 0, none⟩ hlt]; exact hg
  have htl : t < w.heap.size := World.block_lt_of_cell? w _ ht0
  have el := Tryz.elemVP ⟨w.heap.size, 0, none⟩ ⟨t, 0, none⟩ (((w.alloc (.cells #[.pointer (some ⟨t, 0, none⟩)] 108)).alloc (.cells #[.pointer (some ⟨9, 108, none⟩), .pointer (some ⟨w.heap.size, 0, none⟩), .int .u64 150] 136)).alloc (.cells #[.pointer (some ⟨9, 108, none⟩), .pointer (some ⟨w.heap.size, 0, none⟩), .int .u64 150] 136)) (by rw [World.cell?_alloc_lt _ _ ⟨w.heap.size, 0, none⟩ (by simp; omega)]; simp)
  have b4 : Below w.heap.size w ((((w.alloc (.cells #[.pointer (some ⟨t, 0, none⟩)] 108)).alloc (.cells #[.pointer (some ⟨9, 108, none⟩), .pointer (some ⟨w.heap.size, 0, none⟩), .int .u64 150] 136)).alloc (.cells #[.pointer (some ⟨9, 108, none⟩), .pointer (some ⟨w.heap.size, 0, none⟩), .int .u64 150] 136)).alloc (.cells #[.int .i64 p, .iface 174 (.pointer (some a))] 106)) := (((Below.refl w.heap.size w).alloc (Nat.le_refl _) _).alloc (by simp) _ |>.alloc (by simp; omega) _).alloc (by simp; omega) _
  have st := Tryz.setS t (w.heap.size + 1 + 1 + 1) p a o0 o1 ((((w.alloc (.cells #[.pointer (some ⟨t, 0, none⟩)] 108)).alloc (.cells #[.pointer (some ⟨9, 108, none⟩), .pointer (some ⟨w.heap.size, 0, none⟩), .int .u64 150] 136)).alloc (.cells #[.pointer (some ⟨9, 108, none⟩), .pointer (some ⟨w.heap.size, 0, none⟩), .int .u64 150] 136)).alloc (.cells #[.int .i64 p, .iface 174 (.pointer (some a))] 106))
    (by rw [World.cell?_alloc_at _ _ _ _ (by simp)]; rfl) (by rw [World.cell?_alloc_at _ _ _ _ (by simp)]; rfl)
    ((b4.cell (show (⟨t, 0, none⟩ : Addr).block < w.heap.size from htl)).trans ht0) ((b4.cell (show (⟨t, 1, none⟩ : Addr).block < w.heap.size from htl)).trans ht1)
    (by rw [World.frozen?_alloc_old _ _ _ (by simp; omega), World.frozen?_alloc_old _ _ _ (by simp; omega), World.frozen?_alloc_old _ _ _ (by simp; omega), World.frozen?_alloc_old _ _ _ (Nat.ne_of_lt htl)]; exact hf0)
    (by rw [World.frozen?_alloc_old _ _ _ (by simp; omega), World.frozen?_alloc_old _ _ _ (by simp; omega), World.frozen?_alloc_old _ _ _ (by simp; omega), World.frozen?_alloc_old _ _ _ (Nat.ne_of_lt htl)]; exact hf1)
  clear b4
  go_enter Tryz.func73, Tryz.ntmps73
  go_wp2
  refine wp_loop_rounds 1 ?_
  rw [rounds_succ]
  go_wp2
  go_ret
  exact ⟨rfl, rfl⟩
end Go.Proofs.YtpidmmfjmbinkaaGreatDoor
namespace Go.Proofs.YtpidmmfjmbinkaaGreatDoor
open Go.RowKit
structure SEnv3 (w : World) (a b : Addr) : Prop where
  two : SEnv2 w a b
  ty : w.cell? ⟨2, 0, none⟩ = some (.iface 123 (.agg #[.pointer (some ⟨9, 59, none⟩)]))
theorem SEnv3.on {w w' : World} {a b : Addr} (h : SEnv3 w a b) (hb : Below w.heap.size w w') : SEnv3 w' a b :=
  ⟨h.two.on hb, (hb.cell (World.block_lt_of_cell? w _ h.ty)).trans h.ty⟩
set_option maxHeartbeats 4000000 in
set_option maxRecDepth 100000 in
theorem free_nil (g : Int) (t : ByteArray) (k : Int) (w : World) (hk : 0 ≤ k ∧ k ≤ 1) :
    Calls Tryz.prog 54 #[.agg #[.int .i64 g, .string t, .int .i64 k], .nilIface] w fun e w' => e = .returned (.int .i64 (1 - k)) ∧ Below w.heap.size w w' := by
  have b0 := below1 w (.cells #[.int .i64 g, .string t, .int .i64 k] 57)
  have x0 := boxS_new w (.int .i64 g) (.string t) (.int .i64 k)
  have bl := below1 (w.alloc (.cells #[.int .i64 g, .string t, .int .i64 k] 57)) (.cells #[.int .i64 0, .nilIface] 106)
  have x1 := x0.below bl
  have b1 := b0.trans (bl.mono b0.size)
  clear b0 x0 bl
  go_enter Tryz.func54, Tryz.ntmps54
  go_wp2_with fail
  generalize (w.alloc (.cells #[.int .i64 g, .string t, .int .i64 k] 57)).alloc (.cells #[.int .i64 0, .nilIface] 106) = W1 at x1 b1 ⊢
  refine (as_nil _ _).mono ?_
  rintro e w2 ⟨rfl, hw2⟩
  obtain rfl := hw2.symm
  obtain ⟨f0, f1, f2, -, -, -⟩ := x1.facts
  clear x1
  go_wp2
  go_ret
  exact ⟨rfl, b1⟩
set_option maxHeartbeats 4000000 in
set_option maxRecDepth 100000 in
theorem free_sec (g : Int) (t : ByteArray) (k : Int) (p : Int) (c a b : Addr) (w : World) (he : SEnv3 w a b) :
    Calls Tryz.prog 54 #[.agg #[.int .i64 g, .string t, .int .i64 k], secE p c] w fun e w' => e = .returned (.int .i64 p) ∧ Below w.heap.size w w' := by
  have b0 := below1 w (.cells #[.int .i64 g, .string t, .int .i64 k] 57)
  have s0 : (w.alloc (.cells #[.int .i64 g, .string t, .int .i64 k] 57)).heap.size = w.heap.size + 1 := by simp
  have bl := below1 (w.alloc (.cells #[.int .i64 g, .string t, .int .i64 k] 57)) (.cells #[.int .i64 0, .nilIface] 106)
  have y1 : ((w.alloc (.cells #[.int .i64 g, .string t, .int .i64 k] 57)).alloc (.cells #[.int .i64 0, .nilIface] 106)).heap[w.heap.size + 1]? = some (.cells #[.int .i64 0, .nilIface] 106 (0, 0)) := by
    have := heap_alloc_new (w.alloc (.cells #[.int .i64 g, .string t, .int .i64 k] 57)) (.cells #[.int .i64 0, .nilIface] 106)
    rw [s0] at this
    exact this
  have b1 := b0.trans (bl.mono b0.size)
  have e1 := (he.on b1).ty
  have sz := b1.size
  clear b0 bl he
  go_enter Tryz.func54, Tryz.ntmps54
  go_wp2_with fail
  generalize (w.alloc (.cells #[.int .i64 g, .string t, .int .i64 k] 57)).alloc (.cells #[.int .i64 0, .nilIface] 106) = W1 at y1 b1 e1 sz ⊢
  have q0 : W1.cell? ⟨w.heap.size + 1, 0, none⟩ = some (.int .i64 0) := by simp [World.cell?, y1]
  have q1 : W1.cell? ⟨w.heap.size + 1, 1, none⟩ = some .nilIface := by simp [World.cell?, y1]
  have q2 : W1.frozen? ⟨w.heap.size + 1, 0, none⟩ = false := by simp [World.frozen?, y1]
  have q3 : W1.frozen? ⟨w.heap.size + 1, 1, none⟩ = false := by simp [World.frozen?, y1]
  refine (as_sec p c (w.heap.size + 1) _ _ _ e1 q0 q1 q2 q3).mono ?_
  rintro e w2 ⟨rfl, hw2⟩
  have htl : w.heap.size + 1 < W1.heap.size := World.block_lt_of_cell? W1 _ q0
  obtain ⟨W4, hW4⟩ : ∃ W4, W4 = (((W1.alloc (.cells #[.pointer (some ⟨w.heap.size + 1, 0, none⟩)] 108)).alloc (.cells #[.pointer (some ⟨9, 108, none⟩), .pointer (some ⟨W1.heap.size, 0, none⟩), .int .u64 150] 136)).alloc (.cells #[.pointer (some ⟨9, 108, none⟩), .pointer (some ⟨W1.heap.size, 0, none⟩), .int .u64 150] 136)).alloc (.cells #[.int .i64 p, .iface 174 (.pointer (some c))] 106) := ⟨_, rfl⟩
  have b4 : Below W1.heap.size W1 W4 := by
    rw [hW4]
    exact (((Below.refl W1.heap.size W1).alloc (Nat.le_refl _) _).alloc (by simp) _ |>.alloc (by simp; omega) _).alloc (by simp; omega) _
  rw [← hW4] at hw2
  have c0 : W4.cell? ⟨w.heap.size + 1, 0, none⟩ = some (.int .i64 0) := (b4.cell (show (⟨w.heap.size + 1, 0, none⟩ : Addr).block < W1.heap.size from htl)).trans q0
  have b5 := b1.trans (b4.mono b1.size)
  have k0 : w2.cell? ⟨w.heap.size + 1, 0, none⟩ = some (.int .i64 p) := by
    rw [hw2, World.cell?_setCell_other _ _ _ _ (by simp)]
    exact World.cell?_setCell_same _ _ _ c0
  have b6 : Below w.heap.size w w2 := by
    rw [hw2]
    exact (b5.setCell (p := ⟨w.heap.size + 1, 0, none⟩) (by simp) _).setCell (p := ⟨w.heap.size + 1, 1, none⟩) (by simp) _
  clear hw2 hW4 b4 c0 b5 q0 q1 q2 q3 y1 b1 e1 htl sz s0
  go_wp2
  go_ret
  exact ⟨rfl, b6⟩
end Go.Proofs.YtpidmmfjmbinkaaGreatDoor
