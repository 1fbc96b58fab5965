package tests

import (
	"slices"
	"testing"

	"loop.example/g00057/impl"
)

func TestConstants(t *testing.T) {
	got := []int64{impl.OK, impl.ErrForm, impl.ErrMany, impl.ErrRange, impl.ErrNone, impl.ErrText, impl.ErrZero, impl.ErrTaken,
		impl.MaxNum, impl.MaxText, impl.CoinPrime, impl.MaxCoins}
	want := []int64{0, 1, 2, 3, 4, 5, 6, 7, 1000000000, 4000, 2147483647, 5000}
	if !slices.Equal(got, want) {
		t.Errorf("the constants are %v, want %v", got, want)
	}
}

func TestConstantsOfShapes(t *testing.T) {
	got := []int64{impl.MaxPlace, impl.MaxBoxes, impl.MaxGrow, impl.ShapeJoin, impl.ShapeMeet, impl.ShapeLess, impl.ShapeEither}
	want := []int64{10000, 150, 1000, 1, 2, 3, 4}
	if !slices.Equal(got, want) {
		t.Errorf("the constants are %v, want %v", got, want)
	}
}

func TestConstantsOfCells(t *testing.T) {
	got := []int64{impl.MaxCells, impl.MaxFlat, impl.MaxName}
	want := []int64{20, 400, 16}
	if !slices.Equal(got, want) {
		t.Errorf("the constants are %v, want %v", got, want)
	}
}

func TestConstantsOfRules(t *testing.T) {
	got := []int64{impl.MaxLayers, impl.MaxRules, impl.RuleThin, impl.RuleNear, impl.RuleCover, impl.RuleApart, impl.RuleSmall}
	want := []int64{8, 30, 1, 2, 3, 4, 5}
	if !slices.Equal(got, want) {
		t.Errorf("the constants are %v, want %v", got, want)
	}
}

func TestConstantsOfNets(t *testing.T) {
	got := []int64{impl.MaxVias, impl.MaxNets, impl.MaxDevices}
	want := []int64{60, 7, 12}
	if !slices.Equal(got, want) {
		t.Errorf("the constants are %v, want %v", got, want)
	}
}

func TestConstantsOfMasks(t *testing.T) {
	got := []int64{impl.MaxShots, impl.MaxFrame, impl.MaxReach}
	want := []int64{40, 24, 4}
	if !slices.Equal(got, want) {
		t.Errorf("the constants are %v, want %v", got, want)
	}
}

func TestConstantsOfImages(t *testing.T) {
	got := []int64{impl.Turn, impl.MaxPeriod, impl.MaxSource, impl.MaxOrder, impl.Prime}
	want := []int64{1048576, 24, 12, 12, 998244353}
	if !slices.Equal(got, want) {
		t.Errorf("the constants are %v, want %v", got, want)
	}
}

func TestConstantsOfCorrections(t *testing.T) {
	if got, want := []int64{impl.MaxLength, impl.MaxLines}, numbers(60, 12); !slices.Equal(got, want) {
		t.Errorf("the constants are %v, want %v", got, want)
	}
}

func TestConstantsOfResist(t *testing.T) {
	if got, want := []int64{impl.MaxGrid, impl.MaxValue}, numbers(16, 1000000); !slices.Equal(got, want) {
		t.Errorf("the constants are %v, want %v", got, want)
	}
}

func TestConstantOfOverlay(t *testing.T) {
	if got := int64(impl.MaxMarks); got != 20 {
		t.Errorf("MaxMarks is %d", got)
	}
}

func TestConstantsOfStacks(t *testing.T) {
	if got, want := []int64{impl.MaxColumns, impl.MaxStack, impl.MaxThick, impl.MaxMats, impl.Silicon, impl.Oxide}, numbers(16, 24, 100000, 12, 1, 2); !slices.Equal(got, want) {
		t.Errorf("the constants are %v, want %v", got, want)
	}
}

func TestConstantOfProfiles(t *testing.T) {
	if got := int64(impl.MaxDepth); got != 40 {
		t.Errorf("MaxDepth is %d", got)
	}
}

func TestConstantsOfMeasures(t *testing.T) {
	if got, want := []int64{impl.MaxTrace, impl.FrameLong, impl.MaxLibrary}, numbers(200, 8, 20); !slices.Equal(got, want) {
		t.Errorf("the constants are %v, want %v", got, want)
	}
}

func TestConstantsOfDefects(t *testing.T) {
	if got, want := []int64{impl.MaxDefects, impl.MaxClasses}, numbers(60, 20); !slices.Equal(got, want) {
		t.Errorf("the constants are %v, want %v", got, want)
	}
}

func TestConstantsOfCharts(t *testing.T) {
	got := []int64{impl.MaxChart, impl.RuleFar, impl.RuleTwo, impl.RuleFour, impl.RuleSide, impl.RuleTrend, impl.RuleZigzag}
	if want := numbers(200, 1, 2, 3, 4, 5, 6); !slices.Equal(got, want) {
		t.Errorf("the constants are %v, want %v", got, want)
	}
}

func TestConstantsOfRecipes(t *testing.T) {
	got := []int64{impl.MaxParams, impl.MaxSteps, impl.MaxSettings, impl.MaxVersions, impl.VarNumber, impl.VarParam}
	want := []int64{20, 40, 8, 20, 1, 2}
	if !slices.Equal(got, want) {
		t.Errorf("the constants are %v, want %v", got, want)
	}
}

func TestConstantsOfMessages(t *testing.T) {
	got := []int64{impl.MaxItems, impl.MaxNest, impl.MaxData, impl.MaxMessage, impl.ItemList, impl.ItemText, impl.ItemBool, impl.ItemInt,
		impl.TalkIdle, impl.TalkSent, impl.TalkDone, impl.TalkFailed, impl.EventSend, impl.EventAck, impl.EventNak, impl.EventTick}
	if want := numbers(100, 8, 32, 2000, 0, 16, 9, 28, 0, 1, 2, 3, 1, 2, 3, 4); !slices.Equal(got, want) {
		t.Errorf("the constants are %v, want %v", got, want)
	}
}

func TestConstantsOfTools(t *testing.T) {
	got := []int64{impl.MaxApproved, impl.MaxEvents, impl.ToolOff, impl.ToolIdle, impl.ToolReady, impl.ToolRunning, impl.ToolAlarm, impl.ToolDown, impl.ToolSafe,
		impl.ToolPower, impl.ToolLoad, impl.ToolStart, impl.ToolEnd, impl.ToolTrip, impl.ToolClear, impl.ToolService, impl.ToolQualify, impl.ToolFail}
	if want := numbers(20, 200, 0, 1, 2, 3, 4, 5, 6, 1, 2, 3, 4, 5, 6, 7, 8, 9); !slices.Equal(got, want) {
		t.Errorf("the constants are %v, want %v", got, want)
	}
}

func TestConstantsOfClusters(t *testing.T) {
	got := []int64{impl.MaxChambers, impl.MaxRoute, impl.MaxWafers, impl.MaxZones}
	if want := numbers(6, 8, 12, 30); !slices.Equal(got, want) {
		t.Errorf("the constants are %v, want %v", got, want)
	}
}

func TestConstantsOfLots(t *testing.T) {
	got := []int64{impl.MaxLots, impl.MaxLotWafers, impl.MaxRouteSteps, impl.MaxWindows}
	if want := numbers(30, 25, 40, 10); !slices.Equal(got, want) {
		t.Errorf("the constants are %v, want %v", got, want)
	}
}

func TestConstantsOfDispatch(t *testing.T) {
	got := []int64{impl.MaxJobs, impl.MaxExact, impl.PickFirst, impl.PickDue, impl.PickShort, impl.PickRatio}
	if want := numbers(30, 7, 1, 2, 3, 4); !slices.Equal(got, want) {
		t.Errorf("the constants are %v, want %v", got, want)
	}
}

func TestConstantsOfProbes(t *testing.T) {
	got := []int64{impl.MaxElements, impl.MaxCellsTest, impl.MaxMap, impl.ReadZero, impl.ReadOne, impl.WriteZero, impl.WriteOne,
		impl.FaultStuck, impl.FaultRise, impl.FaultFall, impl.FaultForce, impl.FaultFlip}
	if want := numbers(12, 12, 20, 0, 1, 2, 3, 1, 2, 3, 4, 5); !slices.Equal(got, want) {
		t.Errorf("the constants are %v, want %v", got, want)
	}
}

func TestConstantsOfFabs(t *testing.T) {
	got := []int64{impl.MaxTanks, impl.MaxScript, impl.MaxCommands}
	if want := numbers(12, 4000, 120); !slices.Equal(got, want) {
		t.Errorf("the constants are %v, want %v", got, want)
	}
}

func TestExamplesOfFractions(t *testing.T) {
	if r := impl.AddFrac(impl.Frac{Num: 1, Den: 2}, impl.Frac{Num: 1, Den: 3}); r != (impl.FracResult{Frac: impl.Frac{Num: 5, Den: 6}}) {
		t.Errorf("1/2 and 1/3 are %v", r)
	}
	if n := impl.RoundFrac(impl.Frac{Num: -5, Den: 2}); n != -2 {
		t.Errorf("-5/2 is rounded to %d", n)
	}
	checkParse(t, []parseCase{{"-6/4", parsed(-3, 2)}, {"6/-4", failed(impl.ErrText, 2)}, {"1/0", failed(impl.ErrZero, 1)}})
}

func TestExampleOfCoins(t *testing.T) {
	if r := impl.Coins(1, 3, 6); !sameCoins(r, impl.CoinResult{Next: 1291394886, List: []int64{4, 5, 3}}) {
		t.Errorf("Coins(1, 3, 6) = %v", r)
	}
}

func TestExamplesOfShapes(t *testing.T) {
	s := impl.ShapeOf(boxes(box(0, 0, 2, 2), box(1, 1, 3, 3)))
	checkShape(t, "two squares", s, impl.ShapeResult{Boxes: boxes(box(0, 0, 2, 1), box(0, 1, 3, 2), box(1, 2, 3, 3))})
	if rim := impl.RimOf(s.Boxes); rim != (impl.ShapeInt{Value: 12}) {
		t.Errorf("the rim of two squares is %v", rim)
	}
	checkShape(t, "turned once", impl.TurnShape(boxes(box(0, 0, 3, 1)), 1), impl.ShapeResult{Boxes: boxes(box(-1, 0, 0, 3))})
}

func TestExampleOfCells(t *testing.T) {
	list := []impl.Cell{cellWith("a", lboxes(on(0, box(0, 0, 1, 2)))), cellWith("b", nil, impl.Place{Cell: "a", X: 5, Turn: 1, Nx: 2, Ny: 1, Dx: 3})}
	checkFlat(t, "placed twice", impl.Flatten(list, "b"), impl.FlatResult{Boxes: lboxes(on(0, box(3, 0, 5, 1)), on(0, box(6, 0, 8, 1)))})
}

func TestExampleOfRules(t *testing.T) {
	s := boxes(box(0, 0, 1, 1), box(2, 0, 3, 1))
	checkShape(t, "two dots", impl.NearOf(s, 2), impl.ShapeResult{Boxes: boxes(box(1, 0, 2, 1))})
}

func TestExampleOfNets(t *testing.T) {
	got := impl.TransistorsOf(boxes(box(2, -1, 3, 3)), boxes(box(0, 0, 5, 2)))
	checkNetlist(t, "a line across a field", got, impl.NetlistResult{Netlist: circuit(3, device(1, 0, 1, 2))})
}

func TestExampleOfMasks(t *testing.T) {
	got := impl.SpreadMap(shots(shot(box(0, 0, 1, 1), 2)), writer(box(0, 0, 2, 1), 3, 1, 1))
	checkRows(t, "one shot", got, doseRows(numbers(8, 2)))
}

func TestExamplesOfImages(t *testing.T) {
	mask := reals(1, 1, 0, 0)
	checkWave(t, "half of four", impl.OrdersOf(mask), wave(z(2, 0), z(1, -1), z(0, 0), z(1, 1)))
	checkFloats(t, "half of four", impl.ImageOf(mask, pupil(1, 0), spots(spot(0, 1))), floats(16, 16, 0, 0))
	checkInts(t, "half of four", impl.ModImage(numbers(1, 1, 0, 0), numbers(1, 1, 0, 0), numbers(0)), ints(4, 2, 0, 2))
}

func TestExampleOfCorrections(t *testing.T) {
	checkInts(t, "one line", impl.IntensityOf(linesAt(2, 5), 8, kernel(1, 4, 2, 1)), ints(1, 3, 7, 8, 7, 3, 1, 0))
}

func TestExamplesOfResist(t *testing.T) {
	checkRows(t, "diffused once", impl.Diffuse(grid(numbers(64, 0, 0)), 16, 1), doseRows(numbers(48, 16, 0)))
	checkRows(t, "four places", impl.DevelopTimes(grid(numbers(1, 9), numbers(3, 4))), doseRows(numbers(1, 9), numbers(4, 8)))
}

func TestExampleOfWindows(t *testing.T) {
	checkLargest(t, "two rows", grid(numbers(1, 1, 0), numbers(1, 1, 1)), window(4, box(0, 0, 2, 2)))
}

func TestExampleOfOverlay(t *testing.T) {
	checkFitted(t, "three marks", marks(mark(0, 0, 1, 0), mark(2, 0, 3, 0), mark(0, 2, 1, 2)), fitted(wholeModel(1, 0, 1, 0)))
}

func TestExampleOfStacks(t *testing.T) {
	checkGrown(t, "of 50 silicon", impl.Oxidise(section(pile(1, 50)), 25), sectionOf(pile(1, 39, 2, 25)))
}

func TestExampleOfProfiles(t *testing.T) {
	checkMade(t, "64 0", impl.Anneal(profile(0, 64, 0), 16, 1), profileOf(0, 48, 16))
}

func TestExamplesOfMeasures(t *testing.T) {
	checkBits(t, "1", 1, 0x3FF0000000000000)
	checkMean(t, "1, NaN, 2", impl.MeanOf(reading(1, nan, 2)), mean(2, 1.5))
	checkMean(t, "3 1 2 4", impl.MedianOf(reading(3, 1, 2, 4)), mean(4, 2))
}

func TestExamplesOfCharts(t *testing.T) {
	checkToldAlarms(t, "0 7 0 7 10", impl.AlarmsOf(numbers(0, 7, 0, 7, 10), 0, 3), alarmsAt(3, impl.RuleTwo, 4, impl.RuleFar, 4, impl.RuleTwo))
	checkToldRun(t, "to 10", impl.RunLoop(loop(10, 1, 2, 0), numbers(0, 0, 0)), loopRun(numbers(0, 5, 8), numbers(-10, -5, -2)))
}

func TestExamplesOfMessages(t *testing.T) {
	list := items(listOf(2), textItem("a"), intItem(-2))
	checkEncoded(t, "a text and an int", list, bytesOf(0x01, 0x02, 0x41, 0x01, 0x61, 0x71, 0x04, 0xFF, 0xFF, 0xFF, 0xFE))
	checkDecoded(t, raw(0x01, 0x02, 0x41, 0x01, 0x61, 0x71, 0x04, 0xFF, 0xFF, 0xFF, 0xFE), itemsOf(list...))
	cut := impl.CutBlocks(message(1, 3, 5))
	if want := (impl.BlocksResult{Blocks: [][]byte{raw(0x05, 0x01, 0x03, 0x01, 0x05, 0x01, 0x00, 0x0B)}}); !sameBlocks(cut, want) {
		t.Errorf("no data is cut into %v, want %v", cut, want)
	}
}

func TestExampleOfClusters(t *testing.T) {
	c := cluster(1, numbers(5, 7), 1, 2)
	var ats []int64
	for _, h := range impl.MakeSchedule(c, 2).Hauls {
		ats = append(ats, h.At)
	}
	checkInts(t, "two wafers", ints(ats...), ints(0, 6, 7, 14, 15, 23))
	checkValue(t, "two wafers", impl.LeastEnd(c, 2), value(16))
}

func TestExampleOfProbes(t *testing.T) {
	march := marchOf(upward(impl.WriteZero), upward(impl.ReadZero, impl.WriteOne), downward(impl.ReadOne, impl.WriteZero, impl.ReadZero))
	if got := impl.CoverMarch(march, 2); got.All != 16 || got.Found != 13 {
		t.Errorf("on two cells: %v", got)
	}
}

func TestExampleOfTraces(t *testing.T) {
	bytes := raw(0x80, 0x80, 0x80, 0x80, 0x80, 0x80, 0x80, 0xF8, 0x3F, 0x00, 0x80, 0x80, 0x80, 0x80, 0x80, 0x80, 0x80, 0x80, 0x80, 0x01)
	checkPackedAndUnpacked(t, "1, 1 and -1", reading(1, 1, -1), bytes...)
}
